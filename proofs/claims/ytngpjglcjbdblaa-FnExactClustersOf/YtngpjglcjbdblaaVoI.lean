/- Proved here: slices.Grow, slices.Concat, slices.Sort and 'ordered' at lists of int: what all lists have, the least first, in a new list. By walking the library's own text, and by the library's contract for the sort. -/
import Derived.Test.YtngpjglcjbdblaaNlJ
import Derived.Test.YtngpjglcjbdblaaRowPut
import Derived.Test.YtngpjglcjbdblaaSort
import Derived.Lib.AppendZeros
import Derived.Laws.AppendOwnNone
namespace Go.Proofs.Ytngpjglcjbdblaa
open Go.RowKit Go.Sort Go.Shelf Go.Lib
set_option linter.unusedVariables false
set_option linter.unusedSimpArgs false

theorem info_vint : (Try.prog.info? 3).map (fun i => (i.zero, i.size, i.bytes)) = some (some (.int .i64 0), 1, 8) := by kernel_rfl
/-- A list of int of the call's own. -/
def NT (w : World) (B : Nat) (v : Value) (xs : List Int) : Prop := w.ownsRow B 3 1 v xs.length (xs.map (Value.int .i64))
theorem og_nt {w : World} {B : Nat} {v : Value} {s : List Int} : OG 3 1 inC w B v s ↔ NT w B v s := by
  unfold OG NT
  rw [inC_fm]
theorem NT.form {w : World} {B : Nat} {v : Value} {s : List Int} (h : NT w B v s) : ∃ a c, v = .slice a s.length c := (OG.rg inC_len (og_nt.2 h)).form
theorem NT.rg {w : World} {B : Nat} {v : Value} {s : List Int} (h : NT w B v s) : RdI w v s := OG.rg inC_len (og_nt.2 h)
theorem NT.bel {w w' : World} {B : Nat} {v : Value} {s : List Int} (h : NT w B v s) (hb : Below w.heap.size w w') : NT w' B v s := og_nt.1 ((og_nt.2 h).below hb)
theorem NT.low {w : World} {A B : Nat} {v : Value} {s : List Int} (h : NT w B v s) (hab : A ≤ B) : NT w A v s := og_nt.1 (OG.low (og_nt.2 h) hab)
theorem NT.lt {w : World} {B : Nat} {v : Value} {s : List Int} (h : NT w B v s) : ∀ g, v.ownBlock = some g → B ≤ g ∧ g < w.heap.size := World.ownsRow.lt h
theorem NT.two {w : World} {B : Nat} {v : Value} {s : List Int} (h : NT w B v s) : (v = .slice none 0 0 ∧ s = []) ∨ ∃ g c, v = .slice (some ⟨g, 0, none⟩) s.length c ∧ s.length ≤ c := by
  rcases h.2 with ⟨h1, h0⟩ | ⟨g, cap, cur, h1, _, _, hn, _⟩
  · exact Or.inl ⟨h1, List.length_eq_zero_iff.1 h0⟩
  · exact Or.inr ⟨g, cap, h1, hn⟩
theorem ones_nt (xs : List Int) : ∀ u ∈ xs.map (Value.int .i64), u.oneCell' = true := by
  intro u hu
  obtain ⟨x, _, rfl⟩ := List.mem_map.1 hu
  rfl
theorem NT.news {w : World} {B : Nat} {ao : Option Addr} {n c : Nat} {xs : List Int} (h : NT w B (.slice ao n c) xs) : ∀ ad, ao = some ad → ∀ j u, (xs.map (Value.int .i64))[j]? = some u → w.cell? (ad.add j) = some u := by
  intro ad had j u hu
  subst had
  rcases h.2 with ⟨h1, _⟩ | ⟨g, cap, cur, h1, _⟩
  · cases h1
  · injection h1 with h2 h3 h4
    injection h2 with h2
    subst h2 h3 h4
    exact World.ownsRow.cells h rfl j u hu
theorem NT.nilc {w : World} {B : Nat} {ao : Option Addr} {n c : Nat} {xs : List Int} (h : NT w B (.slice ao n c) xs) : ao = none → n = 0 ∧ c = 0 := by
  intro h0
  subst h0
  rcases h.2 with ⟨h1, _⟩ | ⟨g, cap, cur, h1, _⟩
  · injection h1 with _ h3 h4; exact ⟨h3, h4⟩
  · cases h1
theorem app_anyN {P : Program} {w : World} {ops : Array Oper} {rest : List Oper} {o : Oper} {a : Act} {Q : Exit → Act → World → Prop} (hgd : o.guard = none) (s x : Operand) (t : TypeId)
    (ho : o.op = .call { callee := .builtin .append, args := #[s, x], argTypes := #[t, t] })
    (base : Nat) (e : TypeId) (i : TypeInfo) (z : Value) (size bytes : Nat) (ht : P.underlying t = some (.slice e)) (hi : P.info? e = some i) (hz : i.zero = some z)
    (hsize : i.size = size) (hby : i.bytes = bytes) (hzs : z.cells.size = size) (hsz : 0 < size)
    (v : Value) (n : Nat) (xs : List Value) (hs : a.eval s = v) (hown : w.ownsRow base e size v n xs)
    (ao : Option Addr) (m c : Nat) (news : List Value) (hx : a.eval x = .slice ao m c) (hl : news.length = m * size) (hnone : ao = none → m = 0 ∧ c = 0) (hnews : ∀ ad, ao = some ad → ∀ j u, news[j]? = some u → w.cell? (ad.add j) = some u) (h1 : ∀ u ∈ news, u.oneCell' = true)
    (h63 : n + m ≤ maxLen) (hbytes : (n + m) * bytes ≤ 140737488355328) (hbase : base ≤ w.heap.size)
    (h : ∀ v' w', w'.ownsRow base e size v' (n + m) (xs ++ news) → w.grownBy w' v.ownBlock → wpList P ops Q rest (a.put o.dst v') w') : wpList P ops Q (o :: rest) a w := by
  cases ao with
  | some ad => exact wpList_append_own w hgd s x t ho base e i z size bytes ht hi hz hsize hby hzs hsz v n xs hs hown ad m c news hx hl (hnews ad rfl) h1 h63 hbytes hbase fun v' w' h2 h3 h4 => h v' w' h2 h3
  | none =>
    obtain ⟨rfl, rfl⟩ := hnone rfl
    obtain rfl : news = [] := List.eq_nil_of_length_eq_zero (by simpa using hl)
    exact wpList_append_own_none hgd s x t ho base e i size ht hi v n xs hs hown hx (h v w (by simpa using hown) ⟨rfl, rfl, rfl, Nat.le_refl _, fun k _ _ => rfl⟩)
/-- The first lists, one behind the other. -/
def catN (ls : Nat → List Int) (k : Nat) : List Int := (List.range k).flatMap ls
theorem catN_succ (ls : Nat → List Int) (k : Nat) : catN ls (k + 1) = catN ls k ++ ls k := by
  unfold catN
  rw [List.range_succ, List.flatMap_append]
  simp
theorem catN_le (ls : Nat → List Int) {i k : Nat} (h : i ≤ k) : (catN ls i).length ≤ (catN ls k).length := by
  induction k with
  | zero => obtain rfl : i = 0 := by omega
            exact Nat.le_refl _
  | succ k ih =>
    rcases Nat.lt_or_ge i (k + 1) with h1 | h1
    · have := ih (by omega)
      rw [catN_succ, List.length_append]; omega
    · obtain rfl : i = k + 1 := by omega
      exact Nat.le_refl _

set_option maxHeartbeats 3200000 in
theorem lib_growN (n : Nat) (hn : n ≤ 100000) (w : World) :
    Calls Try.prog 44 #[.slice none 0 0, .int .i64 n] w fun e w' => ∃ r, e = .returned r ∧ NT w' w.heap.size r [] ∧ Below w.heap.size w w' := by
  obtain ⟨i0, hi, hz0, hz1, hz2⟩ := info_parts info_vint
  rcases Nat.eq_zero_or_pos n with h0 | h0
  · subst h0
    go_enter Try.func44, Try.ntmps44
    go_wp2
    go_returns
    exact ⟨_, rfl, World.ownsRow_nil _ _ _ _, Below.refl _ _⟩
  · have h1 : (0 : Int) < (n : Int) := by omega
    have h2 : ¬ (n : Int) < 0 := by omega
    have h3 : IntKind.i64.wrap (n : Int) = n := by rw [IntKind.wrap_i64]; omega
    obtain ⟨cp, hcp⟩ : ∃ c, c = grownCap w n 0 3 := ⟨_, rfl⟩
    have hge : n ≤ cp := by rw [hcp]; exact grownCap_ge w n 0 _
    have hle : cp ≤ maxLen := by rw [hcp]; exact grownCap_le_maxLen w n 0 _ (by unfold maxLen; omega)
    obtain ⟨kn, hkn⟩ : ∃ kn, Try.prog.underlying 3 = some (.int kn) := ⟨_, Try.underlying3⟩
    have hrun := Lib.run_append_nil_zeros (P := Try.prog) w 44 3 44 3 i0 (.int .i64 0) .i64 kn Try.underlying44 hkn hi hz0 n h0 (by rw [hz1]; decide) (by omega) (by rw [hz2]; omega)
    rw [← hcp] at hrun
    obtain ⟨W, hW⟩ : ∃ W, W = w.drew.alloc (.cells (Builtin.zeroCells (Value.cells (.int .i64 0)) n ++ Builtin.zeroCells (Value.cells (.int .i64 0)) (cp - n)) 3) := ⟨_, rfl⟩
    rw [← hW] at hrun
    have HW : Hid (NT W w.heap.size (.slice (some ⟨w.heap.size, 0, none⟩) 0 cp) [] ∧ Below w.heap.size w W) := by
      rw [hW]
      refine ⟨⟨by simp, Or.inr ⟨w.heap.size, cp, _, rfl, Nat.le_refl _, heap_alloc_new w.drew _, by simp, hle, ?_, by simp⟩⟩, by (repeat' (first | (with_reducible exact Below.refl _ _) | (with_reducible assumption) | (with_reducible refine Below.setCell ?_ ?_ _) | (with_reducible refine Below.alloc ?_ ?_ _) | (with_reducible refine below_drewN ?_ _) | (with_reducible refine Below.drew ?_) | (with_reducible exact Nat.le_refl _) | omega | (simp; done) | (simp; omega)))⟩
      rw [Array.size_append, size_zeroCells, size_zeroCells]
      show n * 1 + (cp - n) * 1 = cp * 1
      omega
    clear hW hcp
    have hcpi : (0 : Int) ≤ (cp : Int) := by omega
    go_enter Try.func44, Try.ntmps44
    go_wp2_with (at_builtin; refine Lib.wpList_append_run _ rfl _ _ _ _ rfl _ _ rfl rfl _ _ hrun ?_)
    go_wp2
    go_returns
    exact ⟨_, rfl, HW.out.1, HW.out.2⟩


set_option maxRecDepth 10000 in
set_option maxHeartbeats 6400000 in
theorem lib_concatN {w : World} {gl k B : Nat} {vs : Nat → Option Addr × Nat × Nat} {ls : Nat → List Int} (hgl : gl < w.heap.size) (hk : k ≤ 100)
    (hc : ∀ i, i < k → w.cell? ⟨gl, i, none⟩ = some (.slice (vs i).1 (vs i).2.1 (vs i).2.2)) (hl : ∀ i, i < k → NT w B (.slice (vs i).1 (vs i).2.1 (vs i).2.2) (ls i)) (hn : (catN ls k).length ≤ 10000) :
    Calls Try.prog 42 #[.slice (some ⟨gl, 0, none⟩) k k] w fun e w' => ∃ r, e = .returned r ∧ NT w' w.heap.size r (catN ls k) ∧ Below w.heap.size w w' := by
  obtain ⟨i0, hi, hz0, hz1, hz2⟩ := info_parts info_vint
  have HC : Hid (∀ i, i < k → w.cell? ⟨gl, i, none⟩ = some (.slice (vs i).1 (vs i).2.1 (vs i).2.2)) := hc
  have HL : Hid (∀ i, i < k → NT w B (.slice (vs i).1 (vs i).2.1 (vs i).2.2) (ls i)) := hl
  have HN : Hid ((catN ls k).length ≤ 10000) := hn
  clear hc hl hn
  go_enter Try.func42, Try.ntmps42
  go_wp2
  go_loop [3, 11] (fun q i => ∃ j m : Nat, j ≤ k ∧ i = .int .i64 j ∧ q = .int .i64 m ∧ m ≤ 10000 ∧ Hid (m = (catN ls j).length)) (fun _ i => k - (intOf i).toNat)
  case atStart => exact ⟨0, 0, Nat.zero_le _, rfl, rfl, by omega, rfl⟩
  case round =>
    obtain ⟨j, m, hj, rfl, rfl, hm, hR⟩ := hrel
    by_cases hlt : j < k
    · have c0 := HC.out j hlt
      have hfl := HL.out j hlt
      obtain ⟨a1, n1, c1, hs⟩ : ∃ a1 n1 c1, vs j = (a1, n1, c1) := ⟨_, _, _, rfl⟩
      rw [hs] at c0 hfl
      simp only at c0 hfl
      have e1 : n1 = (ls j).length := by obtain ⟨_, _, e⟩ := hfl.form; injection e
      have HS : Hid (m + n1 = (catN ls (j + 1)).length) := by unfold Hid; rw [catN_succ, List.length_append, hR.out, e1]
      have hle : m + n1 ≤ 10000 := by rw [HS.out]; exact Nat.le_trans (catN_le ls hlt) HN.out
      have z1 : ¬ ((m : Int) + (n1 : Int)) < 0 := by omega
      clear hs e1 hfl
      have b0 : (0 : Int) ≤ (j : Int) := by omega
      have b1 : (j : Int) < (k : Int) := by omega
      go_wp2
      go_round
      case rel => exact ⟨j + 1, m + n1, by omega, by go_num, by simp, hle, HS.out⟩
      case measure => simp [intOf]; omega
    · obtain rfl : j = k := by omega
      have HG : Hid (∀ W, Calls Try.prog 44 #[.slice none 0 0, .int .i64 (m : Int)] W fun e w' => ∃ r, e = .returned r ∧ NT w' W.heap.size r [] ∧ Below W.heap.size W w') := fun W => lib_growN m (by omega) W
      clear hlt
      go_wp2_with (fail)
      refine (HG.out _).mono ?_
      rintro e w1 ⟨r1, rfl, hr1, hb1⟩
      obtain ⟨ra, rc, hrf⟩ := hr1.form
      subst hrf
      have HB1 : Hid (NT w1 w.heap.size (.slice ra 0 rc) [] ∧ Below w.heap.size w w1) := ⟨hr1, hb1⟩
      clear hr1 hb1 HG
      go_wp2
      go_loopw [6, 27] (fun v i wr => ∃ (j2 n : Nat) (a : Option Addr) (c : Nat), j2 ≤ j ∧ i = .int .i64 j2 ∧ v = .slice a n c ∧ n ≤ 10000 ∧ Hid (n = (catN ls j2).length ∧ NT wr w.heap.size (.slice a n c) (catN ls j2) ∧ Below w.heap.size w wr)) (fun _ i _ => j - (intOf i).toNat)
      case atStart => exact ⟨0, 0, ra, rc, Nat.zero_le _, rfl, rfl, by omega, rfl, HB1.out.1, HB1.out.2⟩
      case round =>
        clear HB1
        obtain ⟨j2, n, a, c, hj2, rfl, rfl, hn2, hR2⟩ := hrel
        by_cases hlt2 : j2 < j
        · have c0 := (hR2.out.2.2.cell (p := ⟨gl, j2, none⟩) hgl).trans (HC.out j2 hlt2)
          have hfl := HL.out j2 hlt2
          obtain ⟨a1, n1, c1, hs⟩ : ∃ a1 n1 c1, vs j2 = (a1, n1, c1) := ⟨_, _, _, rfl⟩
          rw [hs] at c0 hfl
          simp only at c0 hfl
          have HF : Hid (NT wr B (.slice a1 n1 c1) (ls j2)) := hfl.bel hR2.out.2.2
          have e1 : n1 = (ls j2).length := by obtain ⟨_, _, e⟩ := hfl.form; injection e
          have HE1 : Hid (n1 = (ls j2).length) := e1
          have HS : Hid (n + n1 = (catN ls (j2 + 1)).length) := by unfold Hid; rw [catN_succ, List.length_append, hR2.out.1, e1]
          have hle : n + n1 ≤ 10000 := by rw [HS.out]; exact Nat.le_trans (catN_le ls hlt2) HN.out
          have HO : Hid (wr.ownsRow w.heap.size 3 1 (.slice a n c) n ((catN ls j2).map (Value.int .i64)) ∧ Below w.heap.size w wr) := ⟨by have h := hR2.out.2.1; unfold NT at h; rw [← hR2.out.1] at h; exact h, hR2.out.2.2⟩
          have hgr : gl < wr.heap.size := Nat.lt_of_lt_of_le hgl HO.out.2.size
          clear hs e1 hfl hR2
          have b0 : (0 : Int) ≤ (j2 : Int) := by omega
          have b1 : (j2 : Int) < (j : Int) := by omega
          go_wp2_with (at_builtin; (refine app_anyN rfl (.tmp 31) (.tmp 32) 44 rfl w.heap.size 3 i0 (.int .i64 0) 1 8 Try.underlying44 hi hz0 hz1 hz2 rfl (by decide) (.slice a n c) n _ rfl HO.out.1 a1 n1 c1 ((ls j2).map (Value.int .i64)) rfl (by rw [HE1.out]; simp) HF.out.nilc HF.out.news (ones_nt _) (by unfold maxLen; omega) (by omega) HO.out.2.size ?_); intro v6 w6 hown6 hgrow6; (have HO6 : Hid (NT w6 w.heap.size v6 (catN ls (j2 + 1)) ∧ Below w.heap.size w w6) := ⟨by unfold NT; rw [← HS.out, catN_succ, List.map_append]; exact hown6, HO.out.2.grown hgrow6 HO.out.2.size (fun q hq => (World.ownsRow.lt HO.out.1 q hq).1)⟩); obtain ⟨va, vc, hvf⟩ := HO6.out.1.form; subst hvf; (rw [← HS.out] at HO6 ⊢); clear hown6 hgrow6)
          go_roundw
          case rel => exact ⟨j2 + 1, n + n1, va, vc, by omega, by go_num, rfl, hle, HS.out, HO6.out.1, HO6.out.2⟩
          case measure => simp [intOf]; omega
        · obtain rfl : j2 = j := by omega
          have HD : Hid (NT wr w.heap.size (.slice a n c) (catN ls j2) ∧ Below w.heap.size w wr) := hR2.out.2
          clear hR2 hlt2
          go_wp2
          go_returns
          exact ⟨_, rfl, HD.out.1, HD.out.2⟩

theorem put_encN {α : Type} [Inhabited α] (enc : α → Value) (w : World) (g : Nat) (d : Array α) : putRow enc w g 0 d = putRow id w g 0 (d.map enc) := by
  unfold putRow
  have : putCells enc 0 d = putCells id 0 (d.map enc) := by
    funext c
    unfold putCells
    apply Array.ext_getElem?
    intro t
    simp only [Array.getElem?_mapIdx, Array.size_map]
    congr 1
    funext x
    by_cases h : 0 ≤ t ∧ t < 0 + d.size
    · rw [if_pos h, if_pos h]
      have h2 : t - 0 < d.size := by omega
      rw [getElem!_pos d _ h2, getElem!_pos (d.map enc) _ (by simpa using h2)]
      simp
    · rw [if_neg h, if_neg h]
  rw [this]
theorem int_holdsN {w : World} {B g n cap : Nat} {xs : List Int} (h : NT w B (.slice (some ⟨g, 0, none⟩) n cap) xs) (hn : n = xs.length) : Holds (Value.int .i64) w g 0 xs.toArray := by
  subst hn
  intro j hj
  obtain ⟨h1, h2⟩ := owns_holds h j (by simpa using hj)
  refine ⟨?_, h2⟩
  rw [h1]
  have hj' : j < xs.length := by simpa using hj
  simp [hj']

theorem sortN {w : World} {B g n cap : Nat} {xs : List Int} (h : NT w B (.slice (some ⟨g, 0, none⟩) n cap) xs) (hn : n = xs.length) (hs : n ≤ 1000000) :
    Calls Try.prog 43 #[.slice (some ⟨g, 0, none⟩) n cap] w fun e w' => e = .returned (.tuple #[]) ∧ NT w' B (.slice (some ⟨g, 0, none⟩) n cap) (xs.mergeSort fun x y => decide (x ≤ y)) ∧ Below B w w' := by
  have hlt := World.ownsRow.lt h g rfl
  have hH := int_holdsN h hn
  subst hn
  have hcon := AnyM.slices_Sort_int Try.sortI g 0 cap xs w hH hlt.2 (by omega)
  change Calls Try.prog 43 _ _ _ at hcon
  refine hcon.mono ?_
  rintro e w' ⟨rfl, n, os, rfl⟩
  rw [put_encN]
  refine ⟨rfl, ?_, put_below w n g B _ os hlt.1 hlt.2⟩
  have hl : (xs.mergeSort fun x y => decide (x ≤ y)).length = xs.length := List.length_mergeSort xs
  have := put_owns h ((xs.mergeSort fun x y => decide (x ≤ y)).map (Value.int .i64)) (by simp [hl]) n os
  unfold NT
  rw [hl]
  simpa using this


theorem sortN_nil {w : World} : Calls Try.prog 43 #[.slice none 0 0] w fun e w' => e = .returned (.tuple #[]) ∧ Below w.heap.size w w' := by
  have hcon := AnyM.slices_Sort_int_none Try.sortI none 0 w
  change Calls Try.prog 43 _ _ _ at hcon
  refine hcon.mono ?_
  rintro e w' ⟨rfl, hw⟩
  first
  | (subst hw; exact ⟨rfl, Below.refl _ _⟩)
  | (obtain ⟨n, rfl⟩ := hw; exact ⟨rfl, below_drewN _ _ _⟩)
  | (obtain ⟨n, rfl⟩ := hw; exact ⟨rfl, by (repeat' (first | (with_reducible exact Below.refl _ _) | (with_reducible assumption) | (with_reducible refine Below.setCell ?_ ?_ _) | (with_reducible refine Below.alloc ?_ ?_ _) | (with_reducible refine below_drewN ?_ _) | (with_reducible refine Below.drew ?_) | (with_reducible exact Nat.le_refl _) | omega | (simp; done) | (simp; omega)))⟩)
/-- A list in order. -/
abbrev ordN (xs : List Int) : List Int := xs.mergeSort fun x y => decide (x ≤ y)

set_option maxRecDepth 10000 in
set_option maxHeartbeats 3200000 in
theorem impl_orderedN {w : World} {gl k B : Nat} {vs : Nat → Option Addr × Nat × Nat} {ls : Nat → List Int} (hgl : gl < w.heap.size) (hk : k ≤ 100)
    (hc : ∀ i, i < k → w.cell? ⟨gl, i, none⟩ = some (.slice (vs i).1 (vs i).2.1 (vs i).2.2)) (hl : ∀ i, i < k → NT w B (.slice (vs i).1 (vs i).2.1 (vs i).2.2) (ls i)) (hn : (catN ls k).length ≤ 10000) :
    Calls Try.prog 39 #[.slice (some ⟨gl, 0, none⟩) k k] w fun e w' => ∃ r, e = .returned r ∧ NT w' w.heap.size r (ordN (catN ls k)) ∧ Below w.heap.size w w' := by
  have HK : Hid (Calls Try.prog 42 #[.slice (some ⟨gl, 0, none⟩) k k] w fun e w' => ∃ r, e = .returned r ∧ NT w' w.heap.size r (catN ls k) ∧ Below w.heap.size w w') := lib_concatN hgl hk hc hl hn
  obtain ⟨L, hL⟩ : ∃ L, L = catN ls k := ⟨_, rfl⟩
  rw [← hL] at HK hn ⊢
  clear hL hc hl
  go_enter Try.func39, Try.ntmps39
  go_wp2_with (fail)
  refine HK.out.mono ?_
  rintro e w1 ⟨r, rfl, hr, hb⟩
  rcases hr.two with ⟨rfl, h0⟩ | ⟨g, c, rfl, hcap⟩
  · subst h0
    have HR : Hid (NT w1 w.heap.size (.slice none 0 0) [] ∧ Below w.heap.size w w1) := ⟨hr, hb⟩
    clear hr hb HK
    go_wp2_with (fail)
    refine sortN_nil.mono ?_
    rintro e w2 ⟨rfl, hb2⟩
    go_wp2
    go_returns
    exact ⟨_, rfl, by simpa using HR.out.1.bel hb2, HR.out.2.trans (hb2.mono HR.out.2.size)⟩
  · obtain ⟨n, hnn⟩ : ∃ n, n = L.length := ⟨_, rfl⟩
    have HS : Hid (Calls Try.prog 43 #[.slice (some ⟨g, 0, none⟩) n c] w1 fun e w' => e = .returned (.tuple #[]) ∧ NT w' w.heap.size (.slice (some ⟨g, 0, none⟩) n c) (ordN L) ∧ Below w.heap.size w1 w') := by
      rw [← hnn] at hr
      exact sortN hr hnn (by omega)
    have HB : Hid (Below w.heap.size w w1) := hb
    rw [← hnn]
    clear hnn hr hb HK hcap
    go_wp2_with (fail)
    refine HS.out.mono ?_
    rintro e w2 ⟨rfl, hr2, hb2⟩
    have HR : Hid (NT w2 w.heap.size (.slice (some ⟨g, 0, none⟩) n c) (ordN L) ∧ Below w.heap.size w w2) := ⟨hr2, HB.out.trans hb2⟩
    clear hr2 hb2 HS HB
    go_wp2
    go_returns
    exact ⟨_, rfl, HR.out.1, HR.out.2⟩

end Go.Proofs.Ytngpjglcjbdblaa
