/- Proved here: an append to a row of the call's own of what may be nil. No condition. (And ahead of it: The order of jobs on two machines: what the program sorts in two parts is what the model sorts in one. Arithmetic alone.) -/
import Derived.Test.YtjbghflphngnkaaNwK
import Derived.Test.YtjbghflphngnkaaUnd
import Derived.Test.YtjbghflphngnkaaProg
import Derived.Deep.AppendLies
import Derived.Laws.AppendOwnNone
namespace Go.Proofs.Ytjbghflphngnkaa
open Go.RowKit
set_option linter.unusedVariables false
set_option linter.unusedSimpArgs false


def grpJ (j : Jb) : Int := if j.ti ≤ j.se then 0 else 1
def k2J (j : Jb) : Int := if j.ti ≤ j.se then j.ti else - j.se
def grC (x y : Jb) : Int := cmpI (grpJ x) (grpJ y)
def k2C (x y : Jb) : Int := cmpI (k2J x) (k2J y)
def foC : Jb → Jb → Int := lexC (lexC grC k2C) idC
theorem foC_ord (V : Jb → Prop) : Ord1 foC V := ord_lex (ord_lex (ord_key grpJ V) (ord_key k2J V)) (ord_id V)
theorem foC_neg1 (x y : Jb) : lexC grC k2C y x = - lexC grC k2C x y := (ord_lex (ord_key grpJ (fun _ => True)) (ord_key k2J (fun _ => True))).neg x y
def ahF (s : List Jb) : List Jb := s.filter fun j => decide (j.ti ≤ j.se)
def beF (s : List Jb) : List Jb := s.filter fun j => !decide (j.ti ≤ j.se)
theorem ahF_step {s : List Jb} {k : Nat} (h : k < s.length) : ahF (s.take (k + 1)) = if s[k].ti ≤ s[k].se then ahF (s.take k) ++ [s[k]] else ahF (s.take k) := by
  unfold ahF
  rw [List.take_succ_eq_append_getElem h, List.filter_append]
  by_cases h1 : s[k].ti ≤ s[k].se
  · rw [if_pos h1]; simp [h1]
  · rw [if_neg h1]; simp [h1]
theorem beF_step {s : List Jb} {k : Nat} (h : k < s.length) : beF (s.take (k + 1)) = if s[k].ti ≤ s[k].se then beF (s.take k) else beF (s.take k) ++ [s[k]] := by
  unfold beF
  rw [List.take_succ_eq_append_getElem h, List.filter_append]
  by_cases h1 : s[k].ti ≤ s[k].se
  · rw [if_pos h1]; simp [h1]
  · rw [if_neg h1]; simp [h1]
theorem ahF_len (s : List Jb) : (ahF s).length ≤ s.length := List.length_filter_le _ _
theorem beF_len (s : List Jb) : (beF s).length ≤ s.length := List.length_filter_le _ _
theorem srt_pw {c : Jb → Jb → Int} {l : List Jb} (h : srt c l 0 l.length) : l.Pairwise (fun x y => ¬ c y x < 0) := by
  rw [List.pairwise_iff_getElem]
  intro i j hi hj hij
  have := h i j (Nat.zero_le _) hij hj
  rw [jA_at hi, jA_at hj] at this
  exact this
/-- As the program has it. -/
def flL (s : List Jb) : List Jb := stbF (lexC tiC idC) (ahF s).length (ahF s) ++ stbF (lexC fsC idC) (beF s).length (beF s)
/-- As the model has it. -/
def mdL (s : List Jb) : List Jb := insO foC 0 (s.length - 1) 1 s
theorem mdL_ok (s : List Jb) : (mdL s).Pairwise (fun x y => ¬ foC y x < 0) ∧ (mdL s).Perm s := by
  have hc := ord_C (foC_ord (fun _ => True))
  unfold mdL
  rcases Nat.eq_zero_or_pos s.length with h | h
  · rw [h]
    have e : s = [] := List.eq_nil_of_length_eq_zero h
    subst e
    exact ⟨List.Pairwise.nil, List.Perm.refl _⟩
  · obtain ⟨h1, h2⟩ := insO_ok hc (a := 0) (b := s.length) (s.length - 1) 1 s (by omega) (by omega) (Nat.le_refl _) (fun _ _ => trivial) (fun p q h1 h2 h3 => by omega)
    exact ⟨srt_pw (by rw [h2.len]; exact h1), h2.perm⟩
theorem flL_ok (s : List Jb) : (flL s).Pairwise (fun x y => ¬ foC y x < 0) ∧ (flL s).Perm s := by
  obtain ⟨a1, a2⟩ := stbF_ok (ord_C (ord_lex (ord_ti (fun _ => True)) (ord_id _))) (l := ahF s) (fun _ _ => trivial)
  obtain ⟨b1, b2⟩ := stbF_ok (ord_C (ord_lex (ord_fs (fun _ => True)) (ord_id _))) (l := beF s) (fun _ _ => trivial)
  have ma : ∀ x ∈ stbF (lexC tiC idC) (ahF s).length (ahF s), x.ti ≤ x.se := fun x hx => by
    have := (List.mem_filter.1 (a2.mem_iff.1 hx)).2; simpa using this
  have mb : ∀ x ∈ stbF (lexC fsC idC) (beF s).length (beF s), ¬ x.ti ≤ x.se := fun x hx => by
    have := (List.mem_filter.1 (b2.mem_iff.1 hx)).2; simpa using this
  have ca : ∀ x y : Jb, x.ti ≤ x.se → y.ti ≤ y.se → foC y x = lexC tiC idC y x := fun x y hx hy => by
    have e1 : grC y x = 0 := by unfold grC grpJ; rw [if_pos hx, if_pos hy]; exact cmpI_eq.2 rfl
    have e2 : k2C y x = tiC y x := by unfold k2C k2J tiC; rw [if_pos hx, if_pos hy]
    have e3 : lexC grC k2C y x = tiC y x := by unfold lexC; rw [if_pos e1, e2]
    unfold foC
    show (if lexC grC k2C y x = 0 then idC y x else lexC grC k2C y x) = (if tiC y x = 0 then idC y x else tiC y x)
    rw [e3]
  have cb : ∀ x y : Jb, ¬ x.ti ≤ x.se → ¬ y.ti ≤ y.se → foC y x = lexC fsC idC y x := fun x y hx hy => by
    have e1 : grC y x = 0 := by unfold grC grpJ; rw [if_neg hx, if_neg hy]; exact cmpI_eq.2 rfl
    have e2 : k2C y x = fsC y x := by
      unfold k2C k2J fsC; rw [if_neg hx, if_neg hy]
      unfold cmpI
      split <;> split <;> (try split) <;> omega
    have e3 : lexC grC k2C y x = fsC y x := by unfold lexC; rw [if_pos e1, e2]
    unfold foC
    show (if lexC grC k2C y x = 0 then idC y x else lexC grC k2C y x) = (if fsC y x = 0 then idC y x else fsC y x)
    rw [e3]
  have cc : ∀ x y : Jb, x.ti ≤ x.se → ¬ y.ti ≤ y.se → ¬ foC y x < 0 := fun x y hx hy => by
    have e1 : grC y x = 1 := by unfold grC grpJ; rw [if_pos hx, if_neg hy]; rfl
    have e3 : lexC grC k2C y x = 1 := by unfold lexC; rw [e1]; rfl
    unfold foC
    show ¬ (if lexC grC k2C y x = 0 then idC y x else lexC grC k2C y x) < 0
    rw [e3, if_neg (by decide)]; decide
  unfold flL
  have la : (stbF (lexC tiC idC) (ahF s).length (ahF s)).length = (ahF s).length := a2.length_eq
  have lb : (stbF (lexC fsC idC) (beF s).length (beF s)).length = (beF s).length := b2.length_eq
  refine ⟨List.pairwise_append.2 ⟨?_, ?_, fun x hx y hy => cc x y (ma x hx) (mb y hy)⟩, (a2.append b2).trans (List.filter_append_perm _ _)⟩
  · exact (srt_pw (by rw [la]; exact a1)).imp_of_mem (fun {x y} hx hy h => by rw [ca x y (ma x hx) (ma y hy)]; exact h)
  · exact (srt_pw (by rw [lb]; exact b1)).imp_of_mem (fun {x y} hx hy h => by rw [cb x y (mb x hx) (mb y hy)]; exact h)
theorem id_inj {s : List Jb} (hok : OkJ s) {x y : Jb} (hx : x ∈ s) (hy : y ∈ s) (h : x.id = y.id) : x = y := by
  obtain ⟨i, hi, rfl⟩ := List.getElem_of_mem hx
  obtain ⟨j, hj, rfl⟩ := List.getElem_of_mem hy
  have := hok.uniq i j hi hj h
  subst this; rfl
theorem fl_md {s : List Jb} (hok : OkJ s) : flL s = mdL s := by
  obtain ⟨a1, a2⟩ := flL_ok s
  obtain ⟨b1, b2⟩ := mdL_ok s
  refine List.Perm.eq_of_pairwise (le := fun x y => ¬ foC y x < 0) (fun x y hx hy h1 h2 => ?_) a1 b1 (a2.trans b2.symm)
  exact id_inj hok (a2.mem_iff.1 hx) (b2.mem_iff.1 hy) (lex_id h2 h1 foC_neg1)
theorem pkJ_id {s : List Jb} (hok : OkJ s) {x : Jb} (hx : x ∈ s) : pkJ s x.id = x ∧ 0 ≤ fdI (jdA s) x.id s.length := by
  obtain ⟨i, hi, rfl⟩ := List.getElem_of_mem hx
  have h0 : 0 ≤ fdI (jdA s) s[i].id s.length := by
    rcases Int.lt_or_le (fdI (jdA s) s[i].id s.length) 0 with h | h
    · exact absurd (jdA_at hi) (fdI_neg h i hi)
    · exact h
  refine ⟨?_, h0⟩
  obtain ⟨j, hj, e1, e2, e3⟩ := pkJ_rg hok h0
  rw [e1]
  exact id_inj hok (List.getElem_mem hj) (List.getElem_mem hi) e3
theorem pkL_ids {s l : List Jb} (hok : OkJ s) (h : ∀ x ∈ l, x ∈ s) : pkL s (l.map Jb.id) = l := by
  unfold pkL
  rw [List.map_map]
  conv => rhs; rw [← List.map_id l]
  exact List.map_congr_left fun x hx => (pkJ_id hok (h x hx)).1
def foI (s : List Jb) : List Int := if jbF s = 0 then (flL s).map Jb.id else []
def foQ (s : List Jb) : Int := if jbF s = 0 then floV (flL s) else 0
theorem foI_len (s : List Jb) : (foI s).length ≤ 30 := by
  unfold foI
  split
  · rename_i h
    rw [List.length_map, (flL_ok s).2.length_eq]
    exact (jbF_ok h).len
  · simp

end Go.Proofs.Ytjbghflphngnkaa

namespace Go.Proofs.Ytjbghflphngnkaa
open Go.RowKit
set_option linter.unusedVariables false
set_option linter.unusedSimpArgs false

/-- An append to a row of the call's own of what may be nil, empty, or cut at its end. -/
theorem appAny {P : Program} {w : World} {ops : Array Oper} {rest : List Oper} {o : Oper} {a : Act} {Q : Exit → Act → World → Prop} (hgd : o.guard = none) (s x : Operand) (t : TypeId)
    (ho : o.op = .call { callee := .builtin .append, args := #[s, x], argTypes := #[t, t] })
    (base : Nat) (e : TypeId) (i : TypeInfo) (z : Value) (size bytes : Nat) (ht : P.underlying t = some (.slice e)) (hi : P.info? e = some i) (hz : i.zero = some z)
    (hsize : i.size = size) (hby : i.bytes = bytes) (hzs : z.cells.size = size) (hsz : 0 < size)
    (v : Value) (n : Nat) (xs : List Value) (hs : a.eval s = v) (hown : w.ownsRow base e size v n xs)
    (ao : Option Addr) (m c : Nat) (news : List Value) (hx : a.eval x = .slice ao m c) (hl : news.length = m * size) (hnone : ao = none → m = 0 ∧ c = 0) (hnews : ∀ ad, ao = some ad → ∀ j u, news[j]? = some u → w.cell? (ad.add j) = some u) (h1 : ∀ u ∈ news, u.oneCell' = true)
    (h63 : n + m ≤ maxLen) (hbytes : (n + m) * bytes ≤ 140737488355328) (hbase : base ≤ w.heap.size)
    (h : ∀ v' w', w'.ownsRow base e size v' (n + m) (xs ++ news) → w.grownBy w' v.ownBlock → (v ≠ .slice none 0 0 → v' ≠ .slice none 0 0) → wpList P ops Q rest (a.put o.dst v') w') : wpList P ops Q (o :: rest) a w := by
  cases ao with
  | some ad => exact wpList_append_own w hgd s x t ho base e i z size bytes ht hi hz hsize hby hzs hsz v n xs hs hown ad m c news hx hl (hnews ad rfl) h1 h63 hbytes hbase fun v' w' h2 h3 h4 => h v' w' h2 h3 (fun hn hv => hn (h4.1 hv).1)
  | none =>
    obtain ⟨rfl, rfl⟩ := hnone rfl
    obtain rfl : news = [] := List.eq_nil_of_length_eq_zero (by simpa using hl)
    refine wpList_append_own_none hgd s x t ho base e i size ht hi v n xs hs hown hx (h v w (by simpa using hown) ⟨rfl, rfl, rfl, Nat.le_refl _, fun k _ _ => rfl⟩ id)

end Go.Proofs.Ytjbghflphngnkaa
