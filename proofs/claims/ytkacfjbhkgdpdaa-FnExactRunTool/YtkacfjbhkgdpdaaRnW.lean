/- Proved here: the three lists of a log, in blocks of their own; what RunTool answers beside a code. -/
import Derived.Test.YtkacfjbhkgdpdaaRnG
namespace Go.Proofs.Ytkacfjbhkgdpdaa
open Go.RowKit
set_option linter.unusedVariables false
set_option linter.unusedSimpArgs false

def onC (C : Int) (s : List Int) : List Int := if C = 0 then s else []
/-- The lists of a log, of the call's own and in blocks of their own. -/
structure OwR (V : World) (B : Nat) (v1 v2 v3 : Value) (s : List Ap) (cs : List Int) (rs : List Ap) : Prop where
  t : OG 72 2 apC V B v1 s
  c : IS V B v2 cs
  r : OG 72 2 apC V B v3 rs
  tc : ∀ g, v1.ownBlock = some g → v2.ownBlock ≠ some g
  tr : ∀ g, v1.ownBlock = some g → v3.ownBlock ≠ some g
  cr : ∀ g, v2.ownBlock = some g → v3.ownBlock ≠ some g
theorem owr_none (w : World) (B : Nat) : OwR w B (.slice none 0 0) (.slice none 0 0) (.slice none 0 0) [] [] [] := ⟨ap_none _ _, ⟨rfl, Or.inl ⟨rfl, rfl⟩⟩, ap_none _ _, (fun g h => (by cases h)), (fun g h => (by cases h)), (fun g h => (by cases h))⟩
theorem OwR.keep {V V' : World} {B : Nat} {v1 v2 v3 : Value} {s : List Ap} {cs : List Int} {rs : List Ap} (h : OwR V B v1 v2 v3 s cs rs) (hk : ∀ q, (v1.ownBlock = some q ∨ v2.ownBlock = some q ∨ v3.ownBlock = some q) → V'.heap[q]? = V.heap[q]?) : OwR V' B v1 v2 v3 s cs rs :=
  ⟨og_keep h.t fun q hq => hk q (Or.inl hq), h.c.kept fun q hq => hk q (Or.inr (Or.inl hq)), og_keep h.r fun q hq => hk q (Or.inr (Or.inr hq)), h.tc, h.tr, h.cr⟩
theorem OwR.blk {V : World} {B : Nat} {v1 v2 v3 : Value} {s : List Ap} {cs : List Int} {rs : List Ap} (h : OwR V B v1 v2 v3 s cs rs) {q : Nat} (hq : v1.ownBlock = some q ∨ v2.ownBlock = some q ∨ v3.ownBlock = some q) : B ≤ q ∧ q < V.heap.size := by
  rcases hq with hq | hq | hq
  · exact OG.lt h.t q hq
  · exact IS.lt h.c q hq
  · exact OG.lt h.r q hq
theorem OwR.low {V : World} {A B : Nat} {v1 v2 v3 : Value} {s : List Ap} {cs : List Int} {rs : List Ap} (h : OwR V B v1 v2 v3 s cs rs) (hab : A ≤ B) : OwR V A v1 v2 v3 s cs rs := ⟨OG.low h.t hab, h.c.low hab, OG.low h.r hab, h.tc, h.tr, h.cr⟩
theorem GT.owr {V W : World} {K : Nat} {x : Ts} {vt vc vr : Value} {s : List Ap} {cs : List Int} {rs : List Ap} (h : GT V W K x vt vc vr s cs rs) : OwR W V.heap.size vt vc vr s cs rs := ⟨h.t, h.c, h.r, h.tc, h.tr, h.cr⟩
theorem rn_ten {w : World} {k : Nat} {a b c d e f g h i j : Value} {T : TypeId} (H : w.heap[k]? = some (.cells #[a, b, c, d, e, f, g, h, i, j] T)) :
    (w.cell? ⟨k, 0, none⟩ = some a ∧ w.cell? ⟨k, 1, none⟩ = some b ∧ w.cell? ⟨k, 2, none⟩ = some c ∧ w.cell? ⟨k, 3, none⟩ = some d ∧ w.cell? ⟨k, 4, none⟩ = some e ∧ w.cell? ⟨k, 5, none⟩ = some f ∧ w.cell? ⟨k, 6, none⟩ = some g ∧ w.cell? ⟨k, 7, none⟩ = some h ∧ w.cell? ⟨k, 8, none⟩ = some i ∧ w.cell? ⟨k, 9, none⟩ = some j) ∧ (∀ i, w.frozen? ⟨k, i, none⟩ = false) ∧ k < w.heap.size :=
  ⟨⟨cellOf H 0 rfl, cellOf H 1 rfl, cellOf H 2 rfl, cellOf H 3 rfl, cellOf H 4 rfl, cellOf H 5 rfl, cellOf H 6 rfl, cellOf H 7 rfl, cellOf H 8 rfl, cellOf H 9 rfl⟩, frozOf H, ltOf H⟩
theorem own_formR {w : World} {B n : Nat} {v : Value} {ys : List Value} (h : w.ownsRow B 2 1 v n ys) : ∃ a c, v = .slice a n c := by
  rcases h.2 with ⟨rfl, h0⟩ | ⟨g, cap, cur, rfl, _⟩
  · exact ⟨none, 0, by rw [h0]⟩
  · exact ⟨_, _, rfl⟩
theorem rn_code {V W5 W6 w6 : World} {K K1 K2 ml : Nat} {x : Ts} {vt vc vr v v6 : Value} {s sv : List Ap} {cs M : List Int} {rs : List Ap} {z : Int} {o1 o2 : Obj} (h : GT V W6 K x vt vc vr s cs rs) (h1 : W5.heap[K1]? = some o1) (h2 : W5.heap[K2]? = some o2) (hk1 : K < K1) (hk2 : K1 < K2) (ho : ∀ q, (vc.ownBlock = some q ∨ vr.ownBlock = some q) → q < K1) (hv : ∀ q, v.ownBlock = some q → K1 < q ∧ q < K2) (hO : OG 72 2 apC W5 V.heap.size v sv) (hb : Below W5.heap.size W5 W6) (hl : ml = cs.length) (hM : M = cs ++ [z]) (hown : w6.ownsRow V.heap.size 2 1 v6 (ml + 1) (cs.map (Value.int .i64) ++ [Value.int .i64 z])) (hg : W6.grownBy w6 vc.ownBlock) (hat : v6.ownBlock = vc.ownBlock ∨ v6.ownBlock = some W6.heap.size) :
    GT V (w6.setCell ⟨K, 8, none⟩ v6) K x vt v6 vr s M rs ∧ (w6.setCell ⟨K, 8, none⟩ v6).heap[K1]? = some o1 ∧ (w6.setCell ⟨K, 8, none⟩ v6).heap[K2]? = some o2 ∧ OG 72 2 apC (w6.setCell ⟨K, 8, none⟩ v6) V.heap.size v sv ∧ (∀ q, v6.ownBlock = some q → q < K1 ∨ K2 < q) := by
  have hK1 : K1 < W5.heap.size := ltOf h1
  have hK2 : K2 < W5.heap.size := ltOf h2
  have hs := hb.size
  have hoff : ∀ q, q < W5.heap.size → q ≠ K → vc.ownBlock ≠ some q → (w6.setCell ⟨K, 8, none⟩ v6).heap[q]? = W5.heap[q]? := fun q h3 h4 h5 => by
    rw [heap_setCell_other _ _ _ _ (by simpa using h4), hg.block q (by omega) (fun e => h5 e.symm)]
    exact hb.block q h3
  refine ⟨h.appC hM ?_ hg hat, (hoff K1 hK1 (by omega) (fun e => by have := ho K1 (Or.inl e); omega)).trans h1, (hoff K2 hK2 (by omega) (fun e => by have := ho K2 (Or.inl e); omega)).trans h2, og_keep hO fun q hq => hoff q (OG.lt hO q hq).2 (by have := hv q hq; omega) (fun e => by have h3 := ho q (Or.inl e); have h4 := hv q hq; omega), fun q hq => ?_⟩
  · unfold IS; rw [List.length_append, ← hl, List.map_append]; exact hown
  · rcases hat with e | e
    · rw [e] at hq; exact Or.inl (ho q (Or.inl hq))
    · rw [e] at hq; have := Option.some.inj hq; right; omega
theorem own_formA {w : World} {B n : Nat} {v : Value} {ys : List Value} (h : w.ownsRow B 72 2 v n ys) : ∃ a c, v = .slice a n c := by
  rcases h.2 with ⟨rfl, h0⟩ | ⟨g, cap, cur, rfl, _⟩
  · exact ⟨none, 0, by rw [h0]⟩
  · exact ⟨_, _, rfl⟩
theorem rn_run {V W6 w6 : World} {K rl : Nat} {x : Ts} {vt vc vr v6 : Value} {s : List Ap} {cs : List Int} {rs M : List Ap} {r : ByteArray} {z : Int} (h : GT V W6 K x vt vc vr s cs rs) (hl : rl = rs.length) (hM : M = rs ++ [⟨r, z⟩]) (hown : w6.ownsRow V.heap.size 72 2 v6 (rl + 1) (rs.flatMap apC ++ [.string r, .int .i64 z])) (hg : W6.grownBy w6 vr.ownBlock) (hat : v6.ownBlock = vr.ownBlock ∨ v6.ownBlock = some W6.heap.size) :
    GT V (w6.setCell ⟨K, 9, none⟩ v6) K x vt vc v6 s cs M := by
  refine h.appR hM ?_ hg hat
  unfold OG
  rw [List.length_append, ← hl, List.flatMap_append]
  simpa [apC] using hown
theorem putT_off (W : World) (K : Nat) (y : Ts) (v : Value) {p : Nat} (hp : ¬ p = K) : (putT W K y v).heap[p]? = W.heap[p]? := by
  unfold putT
  rw [heap_setCell_other _ _ _ _ (by simpa using hp), heap_setCell_other _ _ _ _ (by simpa using hp), heap_setCell_other _ _ _ _ (by simpa using hp), heap_setCell_other _ _ _ _ (by simpa using hp), heap_setCell_other _ _ _ _ (by simpa using hp), heap_setCell_other _ _ _ _ (by simpa using hp), heap_setCell_other _ _ _ _ (by simpa using hp)]
theorem rn_ok {x : Ts} {s : List Ap} {es : List Te} (h : rtC x s es = 0) : s.length ≤ 20 ∧ es.length ≤ 200 := ⟨(tl_zero (rtC_ok h).1).2.2.2.1, (rtC_ok h).2⟩

end Go.Proofs.Ytkacfjbhkgdpdaa
