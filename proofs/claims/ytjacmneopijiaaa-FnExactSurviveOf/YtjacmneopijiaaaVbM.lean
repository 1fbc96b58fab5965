/- Proved here: defects by the die that they lie in. (And ahead of it: Proved here: points as keys of a map: what they read as.) -/
import Derived.Test.YtjacmneopijiaaaTmC
import Derived.DeepKeys4
import Derived.Test.YtjacmneopijiaaaBase
namespace Go.Proofs.Ytjacmneopijiaaa
open Go.RowKit
set_option linter.unusedVariables false
set_option linter.unusedSimpArgs false

theorem pt_laid : laidOutB Try.prog = true := by kernel_rfl
theorem pt_row : (104 : TypeId) < Try.prog.types.size := of_decide_eq_true (by kernel_rfl)
theorem pt_wide : (match Try.prog.underlying 104 with | some (.array _ _) | some (.struct _) => true | _ => false) = true := by rw [Try.underlying104]
set_option maxRecDepth 100000 in
theorem pt_law : WideMaps.KeyLaw Try.prog 104 := deep_law_laid pt_laid (m := 2) (by omega) pt_row (by kernel_rfl) pt_wide
theorem pt_keyed : Maps.Keyed Try.prog 104 := Maps.Keyed.of_law pt_law
theorem pt_cells : Try.prog.cellsOf 104 = 2 := by kernel_rfl
theorem pt_one : Try.prog.cellsOf 3 = 1 := by kernel_rfl
theorem pt_deep : Try.prog.keyType 104 = true := by kernel_rfl
def pk (x y : Int) : Lit := .string (keyBytes [.int .i64 x, .int .i64 y])
set_option maxRecDepth 20000 in
theorem pt_lits (n : Nat) {x y : Int} (hx : (Lit.int .i64 x).wf = true) (hy : (Lit.int .i64 y).wf = true) : Try.prog.keyLits (n + 2) 104 [.int .i64 x, .int .i64 y] = some [.int .i64 x, .int .i64 y] := by
  simp [Program.keyLits, Try.underlying104, Try.underlying3, pt_cells, pt_one, hx, hy]
theorem pt_size : ∃ n, Try.prog.types.size + 1 = n + 2 := ⟨Try.prog.types.size - 1, by have h : 0 < Try.prog.types.size := Nat.lt_of_le_of_lt (Nat.zero_le _) pt_row; omega⟩
set_option maxRecDepth 20000 in
theorem pt_key {x y : Int} (hx : -9223372036854775808 ≤ x ∧ x ≤ 9223372036854775807) (hy : -9223372036854775808 ≤ y ∧ y ≤ 9223372036854775807) : keyOf Try.prog 104 (.agg #[.int .i64 x, .int .i64 y]) = some (pk x y) := by
  obtain ⟨n, hn⟩ := pt_size
  have hf : (Value.agg #[.int .i64 x, .int .i64 y]).formed Try.prog 104 = true := by simp [Value.formed, Try.underlying104, pt_cells]
  unfold keyOf
  rw [Try.underlying104]
  simp only [pt_deep, hf, hn, Bool.and_self, if_true]
  have h9 := pt_lits n (ik_wf x hx.1 hx.2) (ik_wf y hy.1 hy.2)
  simp only [Value.cells]
  rw [h9]
  rfl
set_option maxRecDepth 20000 in
theorem pt_int (n : Nat) (v : Value) (l : List Lit) (h : Try.prog.keyLits (n + 1) 3 [v] = some l) : ∃ x, v = .int .i64 x := by
  unfold Program.keyLits at h
  rw [Try.underlying3] at h
  cases v <;> simp at h
  obtain ⟨⟨rfl, _⟩, _⟩ := h
  exact ⟨_, rfl⟩
set_option maxRecDepth 20000 in
theorem pt_inv (key : Value) (kl : Lit) (h : keyOf Try.prog 104 key = some kl) : ∃ p : Int × Int, key = .agg #[.int .i64 p.1, .int .i64 p.2] := by
  obtain ⟨n, hn⟩ := pt_size
  unfold keyOf at h
  rw [Try.underlying104] at h
  simp only at h
  split at h
  · rename_i hc
    simp only [Bool.and_eq_true] at hc
    cases key with
    | agg cs =>
      have hs : cs.size = 2 := by
        have := hc.2
        simp [Value.formed, Try.underlying104, pt_cells] at this
        exact this
      obtain ⟨l⟩ := cs
      match l, hs with
      | [a, b], _ =>
        rw [hn] at h
        simp only [Value.cells] at h
        unfold Program.keyLits at h
        rw [Try.underlying104] at h
        simp only [pt_cells, pt_one] at h
        simp only [Option.map_eq_some_iff] at h
        obtain ⟨ls, h1, _⟩ := h
        split at h1
        · simp only [Option.map_eq_some_iff, List.mapM_cons, List.mapM_nil, Option.bind_eq_bind, Option.bind_eq_some_iff, pt_one] at h1
          obtain ⟨l2, ⟨l3, h2, l4, ⟨l5, h3, _⟩, _⟩, _⟩ := h1
          obtain ⟨x, rfl⟩ := pt_int n a l3 (by simpa [pt_one] using h2)
          obtain ⟨y, rfl⟩ := pt_int n b l5 (by simpa [pt_one] using h3)
          exact ⟨(x, y), rfl⟩
        · cases h1
    | _ => simp [Value.formed, Try.underlying104] at hc
  · cases h
theorem pk_inj {x y a b : Int} (hx : -9223372036854775808 ≤ x ∧ x ≤ 9223372036854775807) (hy : -9223372036854775808 ≤ y ∧ y ≤ 9223372036854775807) (ha : -9223372036854775808 ≤ a ∧ a ≤ 9223372036854775807) (hb : -9223372036854775808 ≤ b ∧ b ≤ 9223372036854775807) (h : pk x y = pk a b) : x = a ∧ y = b := by
  have h1 := pt_key hx hy
  have h2 := pt_key ha hb
  rw [← h] at h2
  have h3 := pt_law.inj h1 h2
  injection h3 with h3
  have h4 := congrArg Array.toList h3
  simp at h4
  exact h4
theorem pk_lit (x y : Int) : WideAt.IsKeyLit (pk x y) := by simp [pk, WideAt.IsKeyLit]
theorem pk_same (x y : Int) : (pk x y).sameKey (pk x y) = true := WideAt.sameKey_self (pk_lit x y)

end Go.Proofs.Ytjacmneopijiaaa

namespace Go.Proofs.Ytjacmneopijiaaa
open Go.RowKit
set_option linter.unusedVariables false
set_option linter.unusedSimpArgs false

def vX (p : Int) (d : Dft) : Int := d.x.tdiv p
def vY (p : Int) (d : Dft) : Int := d.y.tdiv p
def vpk (p : Int) (d : Dft) : Lit := pk (vX p d) (vY p d)
/-- The defects in the die of a key. -/
def vbL (s : List Dft) (p : Int) (kl : Lit) : List Dft := s.filter (fun d => (vpk p d).sameKey kl)
theorem vbL_len (s : List Dft) (p : Int) (kl : Lit) : (vbL s p kl).length ≤ s.length := List.length_filter_le _ _
theorem vbL_succ {s : List Dft} {j : Nat} (hj : j < s.length) (p : Int) (q : Lit) : (if q.sameKey (vpk p s[j]) then vbL (s.take j) p (vpk p s[j]) ++ [s[j]] else vbL (s.take j) p q) = vbL (s.take (j + 1)) p q := by
  have hs : (vpk p s[j]).sameKey (vpk p s[j]) = true := pk_same _ _
  unfold vbL
  rw [List.take_succ_eq_append_getElem hj, List.filter_append]
  by_cases h : q = vpk p s[j]
  · subst h
    rw [if_pos hs]
    simp [hs]
  · rw [if_neg (by rw [Maps.sameKey_ne h]; exact Bool.false_ne_true)]
    have h2 : (vpk p s[j]).sameKey q = false := Maps.sameKey_ne (fun e => h e.symm)
    simp [h2]
theorem tdiv_bd15 {x p : Int} (h0 : 0 ≤ x) (h1 : x ≤ 10000) (hp : 1 ≤ p) : 0 ≤ x.tdiv p ∧ x.tdiv p ≤ 10000 := by
  have h2 : x.tdiv p = x / p := Int.tdiv_eq_ediv_of_nonneg h0
  rw [h2]
  refine ⟨Int.ediv_nonneg h0 (by omega), ?_⟩
  have := Int.ediv_le_self (b := p) h0 
  omega
theorem vX_bd {p : Int} {d : Dft} (hp : 1 ≤ p) (h : Vok d) : 0 ≤ vX p d ∧ vX p d ≤ 10000 := tdiv_bd15 h.1 h.2.1 hp
theorem vY_bd {p : Int} {d : Dft} (hp : 1 ≤ p) (h : Vok d) : 0 ≤ vY p d ∧ vY p d ≤ 10000 := tdiv_bd15 h.2.2.1 h.2.2.2.1 hp

end Go.Proofs.Ytjacmneopijiaaa
