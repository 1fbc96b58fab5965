/- The text of a layout, line by line; what a layout without a fault is. Arithmetic alone. -/
import Derived.Test.YtafghanpfnhkpaaDoorLibM
import Derived.Test.YtafghanpfnhkpaaDoorTxM
import Derived.Test.YtafghanpfnhkpaaDoorTySz
namespace Go.Proofs.YtafghanpfnhkpaaDoor
open Go.ChangeShapes Go.WideShapes Go.ChangeAt Go.RowKit Go.Joins
set_option linter.unusedVariables false
set_option linter.unusedSimpArgs false

def wCel : ByteArray := ⟨#[99, 101, 108, 108, 32]⟩
def wBox : ByteArray := ⟨#[98, 111, 120]⟩
def wPlc : ByteArray := ⟨#[112, 108, 97, 99, 101, 32]⟩
def flN (b : Bool) : Int := if b = true then 1 else 0
def lbN (x : Lb) : List Int := [x.l, x.b.x0, x.b.y0, x.b.x1, x.b.y1]
def plN (p : Pl) : List Int := [p.x, p.y, p.t, flN p.f, p.nx, p.ny, p.dx, p.dy]
def lbT (x : Lb) : ByteArray := linN wBox (lbN x)
def plT (p : Pl) : ByteArray := linN (wPlc ++ p.c) (plN p)
def lbD : Lb := ⟨0, ⟨0, 0, 0, 0⟩⟩
def plD : Pl := ⟨⟨#[]⟩, 0, 0, 0, false, 0, 0, 0, 0⟩
def clD : Cl := ⟨⟨#[]⟩, [], []⟩
def clT (c : Cl) : ByteArray := (linN (wCel ++ c.nm) [] ++ catN (fun i => lbT (c.bs.getD i lbD)) c.bs.length) ++ catN (fun i => plT (c.ps.getD i plD)) c.ps.length
def flT (s : List Cl) : ByteArray := catN (fun i => clT (s.getD i clD)) s.length
def flS (s : List Cl) : ByteArray := if libK s = 0 then (if 4000 < (flT s).size then ⟨#[]⟩ else flT s) else ⟨#[]⟩
theorem getD_c {α : Type} {s : List α} {i : Nat} {d : α} (h : i < s.length) : s.getD i d = s[i] := by simp [List.getD, List.getElem?_eq_getElem h]
theorem firstOf_all {α : Type} {f : α → Int} : ∀ {s : List α}, firstOf f s = 0 → ∀ x ∈ s, f x = 0
  | y :: s, h, x, hx => by
    unfold firstOf at h
    by_cases h0 : f y = 0
    · rw [if_pos h0] at h
      rcases List.mem_cons.1 hx with rfl | hx
      · exact h0
      · exact firstOf_all h x hx
    · rw [if_neg h0] at h; exact absurd h h0
structure ClOk (c : Cl) : Prop where
  nm : c.nm.size ≤ 16
  bn : c.bs.length ≤ 60
  pn : c.ps.length ≤ 20
  bs : ∀ x ∈ c.bs, ∀ n ∈ lbN x, -10000 ≤ n ∧ n ≤ 10000
  ps : ∀ p ∈ c.ps, ∀ n ∈ plN p, -10000 ≤ n ∧ n ≤ 10000
theorem nameK_le {s : ByteArray} (h : nameK s = 0) : s.size ≤ 16 := by
  unfold nameK at h
  split at h
  · rename_i h'; exact h'.2.1
  · cases h
theorem lb_ok {x : Lb} (h : lbK x = 0) : ∀ n ∈ lbN x, -10000 ≤ n ∧ n ≤ 10000 := by
  unfold lbK bfK at h
  split at h
  · cases h
  · rename_i h1
    split at h
    · cases h
    · rename_i h2
      split at h
      · cases h
      · rename_i h3
        intro n hn
        simp only [lbN, List.mem_cons, List.not_mem_nil, or_false] at hn
        rcases hn with rfl | rfl | rfl | rfl | rfl <;> omega
theorem pl_ok {a : Bool} {p : Pl} (h : plK a p = 0) : ∀ n ∈ plN p, -10000 ≤ n ∧ n ≤ 10000 := by
  unfold plK at h
  split at h
  · cases h
  · split at h
    · rename_i h1
      split at h
      · cases h
      · rename_i h2
        simp only [inN, farN, Bool.and_eq_true, Bool.or_eq_true, decide_eq_true_eq] at h1 h2
        have hf : flN p.f = 0 ∨ flN p.f = 1 := by unfold flN; split <;> simp
        intro n hn
        simp only [plN, List.mem_cons, List.not_mem_nil, or_false] at hn
        rcases hn with rfl | rfl | rfl | rfl | rfl | rfl | rfl | rfl <;> omega
    · cases h
theorem cl_ok {ah : ByteArray → Bool} {c : Cl} (h : clK ah c = 0) : ClOk c := by
  unfold clK at h
  by_cases h0 : nameK c.nm = 0
  · rw [if_pos h0] at h
    by_cases h1 : ah c.nm = true
    · rw [if_pos h1] at h; cases h
    · rw [if_neg h1] at h
      by_cases h2 : 60 < c.bs.length ∨ 20 < c.ps.length
      · rw [if_pos h2] at h; cases h
      · rw [if_neg h2] at h
        by_cases h3 : firstOf lbK c.bs = 0
        · rw [if_pos h3] at h
          exact ⟨nameK_le h0, by omega, by omega, fun x hx => lb_ok (firstOf_all h3 x hx), fun p hp => pl_ok (firstOf_all h p hp)⟩
        · rw [if_neg h3] at h; exact absurd h h3
  · rw [if_neg h0] at h; exact absurd h h0
theorem libR_all {s : List Cl} : ∀ (m i : Nat), m = s.length - i → libR s i m = 0 → ∀ j (h : j < s.length), i ≤ j → ClOk s[j]
  | 0, i, hm, _, j, hj, hij => by omega
  | m + 1, i, hm, h, j, hj, hij => by
    have hi : i < s.length := by omega
    unfold libR at h
    rw [dif_pos hi] at h
    by_cases h0 : clK (ahB s i) s[i] = 0
    · rw [if_pos h0] at h
      rcases (by omega : j = i ∨ i + 1 ≤ j) with rfl | hj2
      · exact cl_ok h0
      · exact libR_all m (i + 1) (by omega) h j hj hj2
    · rw [if_neg h0] at h; exact absurd h h0
theorem lib_ok {s : List Cl} (h : libK s = 0) : s.length ≤ 20 ∧ ∀ j (h : j < s.length), ClOk s[j] := by
  unfold libK at h
  by_cases h20 : 20 < s.length
  · rw [if_pos h20] at h; cases h
  · rw [if_neg h20] at h
    exact ⟨by omega, fun j hj => libR_all s.length 0 (by omega) h j hj (by omega)⟩
theorem itoaS_le (n : Int) (M : Nat) (h0 : -(M : Int) ≤ n) (h1 : n ≤ M) : (itoaS n).size ≤ M + 2 := by
  by_cases h : n < 0
  · rw [← itoaS_neg n h, ByteArray.size_append]
    have := decS_size (-n).toNat
    have e : (⟨#[45]⟩ : ByteArray).size = 1 := rfl
    omega
  · rw [← itoaS_pos n (by omega)]
    have := decS_size n.toNat
    omega
theorem numL_le (w : ByteArray) (M : Nat) : ∀ (ns : List Int), (∀ n ∈ ns, -(M : Int) ≤ n ∧ n ≤ M) → (numL w ns).size ≤ w.size + ns.length * (M + 3) := by
  intro ns
  induction ns generalizing w with
  | nil => intro _; simp [numL]
  | cons n ns ih =>
    intro h
    have h1 := ih ((w ++ ⟨#[32]⟩) ++ itoaS n) (fun m hm => h m (List.mem_cons_of_mem _ hm))
    have h2 := h n List.mem_cons_self
    have h3 := itoaS_le n M h2.1 h2.2
    have e : ((w ++ (⟨#[32]⟩ : ByteArray)) ++ itoaS n).size = w.size + 1 + (itoaS n).size := by rw [ba_size, ba_size, one_size]
    have e2 : numL w (n :: ns) = numL ((w ++ ⟨#[32]⟩) ++ itoaS n) ns := rfl
    rw [e2, List.length_cons, Nat.add_mul]
    omega
theorem linN_le (w : ByteArray) (ns : List Int) (h : ∀ n ∈ ns, -10000 ≤ n ∧ n ≤ 10000) : (linN w ns).size ≤ w.size + ns.length * 10003 + 1 := by
  unfold linN
  rw [ba_size, one_size]
  have := numL_le w 10000 ns h
  omega
theorem wide {ns : List Int} (h : ∀ n ∈ ns, -10000 ≤ n ∧ n ≤ 10000) : ∀ n ∈ ns, -1000000000 ≤ n ∧ n ≤ 1000000000 := fun n hn => by have := h n hn; omega
theorem lbT_size {x : Lb} (h : ∀ n ∈ lbN x, -10000 ≤ n ∧ n ≤ 10000) : (lbT x).size ≤ 1200000 := by
  have := linN_le wBox (lbN x) h
  have e : wBox.size = 3 := rfl
  have e2 : (lbN x).length = 5 := rfl
  rw [e, e2] at this
  exact Nat.le_trans this (by omega)
theorem plT_size {p : Pl} (h0 : p.c.size ≤ 1048576) (h : ∀ n ∈ plN p, -10000 ≤ n ∧ n ≤ 10000) : (plT p).size ≤ 1200000 := by
  have := linN_le (wPlc ++ p.c) (plN p) h
  have e : wPlc.size = 6 := rfl
  have e2 : (plN p).length = 8 := rfl
  rw [ba_size, e, e2] at this
  exact Nat.le_trans this (by omega)
theorem cel_size {nm : ByteArray} (h0 : nm.size ≤ 16) : (linN (wCel ++ nm) []).size ≤ 1200000 := by
  have := linN_le (wCel ++ nm) [] (fun n hn => by cases hn)
  have e : wCel.size = 5 := rfl
  have e2 : ([] : List Int).length = 0 := rfl
  rw [ba_size, e, e2] at this
  exact Nat.le_trans this (by omega)
theorem catN_size {f : Nat → ByteArray} {L : Nat} : ∀ {n : Nat}, (∀ i, i < n → (f i).size ≤ L) → (catN f n).size ≤ n * L
  | 0, _ => by simp [catN, ByteArray.size]
  | n + 1, h => by
    have := catN_size (f := f) (L := L) (n := n) (fun i hi => h i (by omega))
    have h2 := h n (by omega)
    rw [catN_snoc, ba_size, Nat.add_mul]
    omega
theorem clT_size {c : Cl} (h : ClOk c) (hp : ∀ j (h : j < c.ps.length), (c.ps[j]).c.size ≤ 1048576) : (clT c).size ≤ 100000000 := by
  have h1 := cel_size h.nm
  have h2 := catN_size (f := fun i => lbT (c.bs.getD i lbD)) (L := 1200000) (n := c.bs.length) (fun i hi => by show (lbT (c.bs.getD i lbD)).size ≤ _; rw [getD_c hi]; exact lbT_size (h.bs _ (List.getElem_mem _)))
  have h3 := catN_size (f := fun i => plT (c.ps.getD i plD)) (L := 1200000) (n := c.ps.length) (fun i hi => by show (plT (c.ps.getD i plD)).size ≤ _; rw [getD_c hi]; exact plT_size (hp i hi) (h.ps _ (List.getElem_mem _)))
  have h4 := h.bn
  have h5 := h.pn
  unfold clT
  rw [ba_size, ba_size]
  omega
end Go.Proofs.YtafghanpfnhkpaaDoor
