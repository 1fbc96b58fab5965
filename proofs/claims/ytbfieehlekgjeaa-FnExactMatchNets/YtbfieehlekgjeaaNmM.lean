/- Proved here: arithmetic alone: namings of nets, told in two ways; when two lists of devices are the same but for their order, told in two ways. No condition on the program. -/
import Derived.Test.YtbfieehlekgjeaaNlF
namespace Go.Proofs.Ytbfieehlekgjeaa
set_option linter.unusedVariables false
set_option linter.unusedSimpArgs false

/-- A list in which each number below its length stands, and no more. -/
def nmB (nets : List Int) (N : Int) : Bool := decide ((nets.length : Int) = N) && (List.range nets.length).all (fun i => nets.contains (i : Int))
theorem sub_len : ∀ (l m : List Int), l.Nodup → (∀ x ∈ l, x ∈ m) → l.length ≤ m.length := by
  intro l
  induction l with
  | nil => intro m _ _; simp
  | cons a t ih =>
    intro m hn hs
    have ha : a ∈ m := hs a (by simp)
    rw [List.nodup_cons] at hn
    have h1 := ih (m.erase a) hn.2 (fun x hx => by
      have hxa : x ≠ a := fun e => hn.1 (e ▸ hx)
      exact (List.mem_erase_of_ne hxa).2 (hs x (by simp [hx])))
    have h2 := List.length_erase_of_mem ha
    have h3 : 0 < m.length := List.length_pos_of_mem ha
    simp only [List.length_cons]
    omega
theorem sub_all {l m : List Int} (hn : l.Nodup) (hs : ∀ x ∈ l, x ∈ m) (hl : m.length ≤ l.length) : ∀ x ∈ m, x ∈ l := by
  intro x hx
  refine Classical.byContradiction fun h => ?_
  have := sub_len (x :: l) m (List.nodup_cons.2 ⟨h, hn⟩) (fun y hy => by
    rcases List.mem_cons.1 hy with rfl | hy
    · exact hx
    · exact hs y hy)
  simp only [List.length_cons] at this
  omega
/-- The numbers below n. -/
def upI (n : Nat) : List Int := (List.range n).map fun i : Nat => (i : Int)
theorem upI_len (n : Nat) : (upI n).length = n := by simp [upI]
theorem upI_nodup (n : Nat) : (upI n).Nodup := by
  unfold upI
  rw [List.nodup_iff_pairwise_ne, List.pairwise_map]
  refine List.Pairwise.imp ?_ (List.nodup_iff_pairwise_ne.1 (List.nodup_range))
  intro a b h; omega
theorem upI_mem {n : Nat} {x : Int} : x ∈ upI n ↔ 0 ≤ x ∧ x < n := by
  unfold upI
  rw [List.mem_map]
  constructor
  · rintro ⟨i, hi, rfl⟩
    rw [List.mem_range] at hi
    omega
  · intro h
    exact ⟨x.toNat, by rw [List.mem_range]; omega, by omega⟩
theorem nmB_iff {nets : List Int} {N : Int} : nmB nets N = true ↔ (nets.length : Int) = N ∧ ∀ x ∈ upI nets.length, x ∈ nets := by
  unfold nmB
  rw [Bool.and_eq_true, decide_eq_true_iff, List.all_eq_true]
  constructor
  · rintro ⟨h1, h2⟩
    refine ⟨h1, fun x hx => ?_⟩
    obtain ⟨h3, h4⟩ := upI_mem.1 hx
    have := h2 x.toNat (by rw [List.mem_range]; omega)
    rw [List.contains_iff_mem] at this
    have e : (x.toNat : Int) = x := by omega
    rw [← e]; exact this
  · rintro ⟨h1, h2⟩
    refine ⟨h1, fun i hi => ?_⟩
    rw [List.mem_range] at hi
    rw [List.contains_iff_mem]
    exact h2 _ (upI_mem.2 ⟨by omega, by omega⟩)
/-- In a naming all is in range. -/
theorem nmB_range {nets : List Int} {N : Int} (h : nmB nets N = true) : ∀ x ∈ nets, 0 ≤ x ∧ x < N := by
  obtain ⟨h1, h2⟩ := nmB_iff.1 h
  intro x hx
  have := upI_mem.1 (sub_all (upI_nodup _) h2 (by rw [upI_len]; exact Nat.le_refl _) x hx)
  omega
theorem nodup_get {l : List Int} (h : ∀ i k, k < i → i < l.length → l.getD k 0 ≠ l.getD i 0) : l.Nodup := by
  rw [List.nodup_iff_pairwise_ne, List.pairwise_iff_getElem]
  intro i j hi hj hij
  have := h j i hij hj
  rw [List.getD_eq_getElem?_getD, List.getD_eq_getElem?_getD, List.getElem?_eq_getElem hi, List.getElem?_eq_getElem hj] at this
  simpa using this
/-- In a naming nothing stands twice. -/
theorem nmB_twice {nets : List Int} {N : Int} (h : nmB nets N = true) : ∀ i k, k < i → i < nets.length → nets.getD k 0 ≠ nets.getD i 0 := by
  obtain ⟨h1, h2⟩ := nmB_iff.1 h
  intro i k hk hi he
  have hkl : k < nets.length := by omega
  rw [List.getD_eq_getElem?_getD, List.getD_eq_getElem?_getD, List.getElem?_eq_getElem hi, List.getElem?_eq_getElem hkl] at he
  simp only [Option.getD_some] at he
  have hsub : ∀ x ∈ upI nets.length, x ∈ nets.eraseIdx i := fun x hx => by
    obtain ⟨j, hj, e⟩ := List.getElem_of_mem (h2 x hx)
    rw [List.mem_eraseIdx_iff_getElem]
    by_cases hji : j = i
    · subst hji
      exact ⟨k, hkl, by omega, by rw [he]; exact e⟩
    · exact ⟨j, hj, hji, e⟩
  have := sub_len _ _ (upI_nodup _) hsub
  rw [upI_len, List.length_eraseIdx] at this
  simp only [hi, if_true] at this
  omega
theorem nmB_of {nets : List Int} {N : Int} (h1 : (nets.length : Int) = N) (h2 : ∀ x ∈ nets, 0 ≤ x ∧ x < N) (h3 : nets.Nodup) : nmB nets N = true := by
  refine nmB_iff.2 ⟨h1, ?_⟩
  exact sub_all h3 (fun x hx => upI_mem.2 (by have := h2 x hx; omega)) (by rw [upI_len]; exact Nat.le_refl _)

/-- Pins, renamed. -/
def rnP (nets p : List Int) : List Int := p.map fun x => nets.getD x.toNat 0
def rnD (nets : List Int) (d : Dv) : Dv := ⟨d.k, rnP nets d.p⟩
/-- Each device of a stands there as often as its renamed one in b. -/
def sdB (nets : List Int) (a b : List Dv) : Bool := a.all fun d => decide (a.count d = b.count (rnD nets d))
/-- Each device of b stands as often in a, renamed. -/
def scB (nets : List Int) (a b : List Dv) : Bool := b.all fun e => decide ((a.map (rnD nets)).count e = b.count e)

theorem perm_of : ∀ (X Y : List Dv), X.length = Y.length → (∀ e ∈ X, X.count e = Y.count e) → X.Perm Y := by
  intro X
  induction X with
  | nil => intro Y hl _; have : Y = [] := List.length_eq_zero_iff.1 hl.symm; rw [this]
  | cons e X ih =>
    intro Y hl h
    have he : 0 < Y.count e := by rw [← h e (by simp)]; simp
    have hm : e ∈ Y := List.count_pos_iff.1 he
    have hp := List.perm_cons_erase hm
    refine List.Perm.trans (List.Perm.cons e (ih (Y.erase e) ?_ ?_)) hp.symm
    · have := hp.length_eq; simp at this hl; omega
    · intro f hf
      have h1 := h f (by simp [hf])
      rw [hp.count_eq, List.count_cons, List.count_cons] at h1
      omega
theorem inj_count {α : Type} [DecidableEq α] (f : α → α) : ∀ (l : List α) (d : α), (∀ x ∈ l, f x = f d → x = d) → (l.map f).count (f d) = l.count d := by
  intro l
  induction l with
  | nil => intro d _; rfl
  | cons a t ih =>
    intro d h
    rw [List.map_cons, List.count_cons, List.count_cons, ih d (fun x hx => h x (by simp [hx]))]
    by_cases e : a = d
    · subst e; simp
    · have : f a ≠ f d := fun h' => e (h a (by simp) h')
      simp [e, this]
theorem map_inj {g : Int → Int} : ∀ (p q : List Int), (∀ x ∈ p, ∀ y ∈ q, g x = g y → x = y) → p.map g = q.map g → p = q := by
  intro p
  induction p with
  | nil => intro q _ h; cases q with
    | nil => rfl
    | cons b t => simp at h
  | cons a t ih =>
    intro q h he
    cases q with
    | nil => simp at he
    | cons b u =>
      simp only [List.map_cons, List.cons.injEq] at he
      have e1 := h a (by simp) b (by simp) he.1
      rw [e1, ih u (fun x hx y hy => h x (by simp [hx]) y (by simp [hy])) he.2]
/-- By a naming different devices stay different. -/
theorem rnD_inj {nets : List Int} {N : Int} (h : nmB nets N = true) {d e : Dv} (hd : ∀ x ∈ d.p, 0 ≤ x ∧ x < N) (he : ∀ x ∈ e.p, 0 ≤ x ∧ x < N) (hr : rnD nets d = rnD nets e) : d = e := by
  obtain ⟨k1, p1⟩ := d
  obtain ⟨k2, p2⟩ := e
  simp only [rnD, Dv.mk.injEq] at hr
  obtain ⟨rfl, hp⟩ := hr
  have hl := (nmB_iff.1 h).1
  have : p1 = p2 := by
    refine map_inj p1 p2 (fun x hx y hy hxy => ?_) hp
    have h1 := hd x hx
    have h2 := he y hy
    rcases (by omega : x.toNat < y.toNat ∨ y.toNat < x.toNat ∨ x = y) with h3 | h3 | h3
    · exact absurd hxy (nmB_twice h _ _ h3 (by omega))
    · exact absurd hxy.symm (nmB_twice h _ _ h3 (by omega))
    · exact h3
  rw [this]
/-- Both ways tell the same. -/
theorem sd_sc {nets : List Int} {N : Int} {a b : List Dv} (h : nmB nets N = true) (ha : ∀ d ∈ a, ∀ x ∈ d.p, 0 ≤ x ∧ x < N) (hl : a.length = b.length) : sdB nets a b = scB nets a b := by
  have hinj : ∀ d ∈ a, (a.map (rnD nets)).count (rnD nets d) = a.count d := fun d hd => inj_count _ a d (fun x hx hr => rnD_inj h (ha x hx) (ha d hd) hr)
  rw [Bool.eq_iff_iff]
  unfold sdB scB
  rw [List.all_eq_true, List.all_eq_true]
  constructor
  · intro h1
    have hp : (a.map (rnD nets)).Perm b := perm_of _ _ (by simp [hl]) (fun e he => by
      obtain ⟨d, hd, rfl⟩ := List.mem_map.1 he
      have := h1 d hd
      rw [decide_eq_true_iff] at this
      rw [hinj d hd, this])
    intro e _
    rw [decide_eq_true_iff, hp.count_eq]
  · intro h1
    have hp : b.Perm (a.map (rnD nets)) := perm_of _ _ (by simp [hl]) (fun e he => by
      have := h1 e he
      rw [decide_eq_true_iff] at this
      exact this.symm)
    intro d hd
    rw [decide_eq_true_iff, ← hinj d hd, hp.count_eq]
/-- Without a fault all pins are in range. -/
theorem firstD_zero {N : Int} : ∀ {s : List Dv}, firstD N s = 0 → ∀ d ∈ s, dvF N d = 0 := by
  intro s
  induction s with
  | nil => intro _ d hd; simp at hd
  | cons a t ih =>
    intro h d hd
    rw [firstD] at h
    by_cases h0 : dvF N a = 0
    · rw [if_pos h0] at h
      rcases List.mem_cons.1 hd with rfl | hd
      · exact h0
      · exact ih h d hd
    · rw [if_neg h0] at h; exact absurd h h0
structure NlGood (N : Int) (s : List Dv) : Prop where
  n0 : 0 ≤ N
  n7 : N ≤ 7
  len : s.length ≤ 12
  pin : ∀ d ∈ s, ∀ x ∈ d.p, 0 ≤ x ∧ x < N
  pl : ∀ d ∈ s, d.p.length ≤ 4
theorem nlF_good {N : Int} {s : List Dv} (h : nlF N s = 0) : NlGood N s := by
  unfold nlF at h
  split at h
  · omega
  · rename_i h1
    split at h
    · omega
    · rename_i h2
      have hz := firstD_zero h
      refine ⟨by omega, by omega, by omega, fun d hd x hx => ?_, fun d hd => ?_⟩
      · have h3 := hz d hd
        unfold dvF at h3
        split at h3
        · omega
        · split at h3
          · omega
          · split at h3
            · omega
            · rename_i h4
              have : pinBad N x = false := by
                rw [Bool.not_eq_true, List.any_eq_false] at h4
                simpa using h4 x hx
              exact pinBad_f this
      · have h3 := hz d hd
        unfold dvF at h3
        split at h3
        · omega
        · split at h3
          · omega
          · omega

end Go.Proofs.Ytbfieehlekgjeaa
