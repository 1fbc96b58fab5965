/- Proved here: small rules on worlds that have grown: what was there is there still. No condition on the program. (And ahead of it: Proved here: oxide that grows, layer by layer. No condition on the program.) -/
import Derived.Test.YtceljakmjddgbabEtM
import Derived.Test.YtceljakmjddgbabUnd
namespace Go.Proofs.Ytceljakmjddgbab
open Go.RowKit
set_option linter.unusedVariables false
set_option linter.unusedSimpArgs false

/-- Where the silicon lies, on top or under oxide; -1 if there is none. -/
def siI (c : List Flm) : Int :=
  if c.length = 0 then -1
  else if (fat c (c.length - 1)).m = 2 then (if 2 ≤ c.length ∧ (fat c (c.length - 2)).m = 1 then (c.length : Int) - 2 else -1)
  else if (fat c (c.length - 1)).m = 1 then (c.length : Int) - 1 else -1
/-- What is used, and what grows. -/
def oxE (t a : Int) : Int := if t < 44 * a / 100 then t else 44 * a / 100
def oxA (t a : Int) : Int := if t < 44 * a / 100 then 100 * t / 44 else a
def oxL (c : List Flm) (a : Int) : List Lay :=
  if siI c < 0 then whoL c else (whoL c).set (siI c).toNat (lessL (fat c (siI c).toNat) (oxE (fat c (siI c).toNat).t a)) ++ [.who 2 (oxA (fat c (siI c).toNat).t a)]
/-- How much oxide lies over it. -/
def oxO (c : List Flm) : Int := if (fat c (c.length - 1)).m = 2 then (fat c (c.length - 1)).t else 0
/-- What the model makes of a column. -/
def grF (a : Int) (c : List Flm) : List Flm :=
  if siI c < 0 then c else putF (putF (c.take (siI c).toNat) ⟨1, (fat c (siI c).toNat).t - oxE (fat c (siI c).toNat).t a⟩) ⟨2, oxO c + oxA (fat c (siI c).toNat).t a⟩
theorem putF_merge (X : List Flm) {m a b : Int} (ha : 0 < a) (hb : 0 < b) : putF (putF X ⟨m, a⟩) ⟨m, b⟩ = putF X ⟨m, a + b⟩ := by
  by_cases h : 0 < X.length ∧ (fat X (X.length - 1)).m = m
  · have e1 : putF X ⟨m, a⟩ = X.set (X.length - 1) ⟨m, (fat X (X.length - 1)).t + a⟩ := by
      unfold putF; rw [if_neg (by show a ≠ 0; omega), if_pos h]
    have e2 : putF X ⟨m, a + b⟩ = X.set (X.length - 1) ⟨m, (fat X (X.length - 1)).t + (a + b)⟩ := by
      unfold putF; rw [if_neg (by show a + b ≠ 0; omega), if_pos h]
    rw [e1, e2]
    unfold putF
    rw [if_neg (by show b ≠ 0; omega), List.length_set, fat_set (by omega), if_pos rfl, if_pos ⟨h.1, rfl⟩, List.set_set]
    congr 2
    show _ + a + b = _
    omega
  · have e1 : putF X ⟨m, a⟩ = X ++ [⟨m, a⟩] := by
      unfold putF; rw [if_neg (by show a ≠ 0; omega), if_neg h]
    have e2 : putF X ⟨m, a + b⟩ = X ++ [⟨m, a + b⟩] := by
      unfold putF; rw [if_neg (by show a + b ≠ 0; omega), if_neg h]
    rw [e1, e2]
    unfold putF
    rw [if_neg (by show b ≠ 0; omega)]
    have hl : (X ++ [(⟨m, a⟩ : Flm)]).length - 1 = X.length := by simp
    rw [hl, fat_snoc, if_pos rfl, if_pos ⟨by simp, rfl⟩]
    simp
structure SiOk (c : List Flm) (p : Nat) : Prop where
  lt : p < c.length
  m : (fat c p).m = 1
  e : siI c = (p : Int)
  top : (c.length = p + 1 ∧ (fat c (c.length - 1)).m ≠ 2) ∨ (c.length = p + 2 ∧ (fat c (c.length - 1)).m = 2)
theorem si_ok {c : List Flm} (h : ¬ siI c < 0) : ∃ p, SiOk c p := by
  unfold siI at h
  split at h
  · omega
  · rename_i h0
    split at h
    · rename_i h1
      split at h
      · rename_i h2
        refine ⟨c.length - 2, ⟨by omega, h2.2, ?_, Or.inr ⟨by omega, h1⟩⟩⟩
        unfold siI
        rw [if_neg h0, if_pos h1, if_pos h2]
        omega
      · omega
    · rename_i h1
      split at h
      · rename_i h2
        refine ⟨c.length - 1, ⟨by omega, h2, ?_, Or.inl ⟨by omega, h1⟩⟩⟩
        unfold siI
        rw [if_neg h0, if_neg h1, if_pos h2]
        omega
      · omega
theorem ox_bounds {t a : Int} (ht : 1 ≤ t ∧ t ≤ 100000) (ha : 1 ≤ a ∧ a ≤ 100000) : 0 ≤ oxE t a ∧ oxE t a ≤ t ∧ 1 ≤ oxA t a ∧ oxA t a ≤ 250000 := by
  unfold oxE oxA
  split <;> omega
theorem less_left {f : Flm} {b : Int} (h : 0 ≤ b ∧ b ≤ f.t) : leftL (lessL f b) = ⟨f.m, f.t - b⟩ := by
  unfold lessL
  split
  · rename_i h1
    simp only [leftL]
    congr 1
    omega
  · rfl
theorem oxL_len {c : List Flm} {a : Int} : (oxL c a).length ≤ c.length + 1 := by
  unfold oxL
  split
  · rw [whoL_len]; omega
  · simp [whoL_len]
theorem oxL_ok {c : List Flm} (h : GC c) {a : Int} (ha : 1 ≤ a ∧ a ≤ 100000) : ∀ k, k < (oxL c a).length → okL (lat (oxL c a) k) := by
  intro k hk
  unfold oxL at hk ⊢
  by_cases hs : siI c < 0
  · rw [if_pos hs] at hk ⊢
    rw [whoL_len] at hk
    exact okL_who h hk
  · rw [if_neg hs] at hk ⊢
    obtain ⟨p, hp⟩ := si_ok hs
    rw [hp.e, Int.toNat_natCast] at hk ⊢
    have hm := h.m hp.lt
    have ht := h.t hp.lt
    have hb := ox_bounds ht ha
    rw [List.length_append, List.length_set, whoL_len, List.length_singleton] at hk
    by_cases e : k < c.length
    · rw [lat_app (by rw [List.length_set, whoL_len]; exact e), lat_set (by rw [whoL_len]; exact hp.lt)]
      split
      · unfold lessL
        split
        · exact ⟨hm.1, hm.2, by omega, by omega⟩
        · exact ⟨hm.1, hm.2, by omega, by omega, by omega⟩
      · exact okL_who h e
    · have e2 : k = ((whoL c).set p (lessL (fat c p) (oxE (fat c p).t a))).length := by rw [List.length_set, whoL_len]; omega
      rw [e2, lat_end]
      exact ⟨by omega, by omega, by omega, by omega⟩
/-- The layers, put upon each other, are what the model makes. -/
theorem oxL_put {c : List Flm} (h : GC c) {a : Int} (ha : 1 ≤ a ∧ a ≤ 100000) : putA (oxL c a) (oxL c a).length = grF a c := by
  by_cases hs : siI c < 0
  · unfold oxL grF
    rw [if_pos hs, if_pos hs, whoL_len, putA_who h (Nat.le_refl _), List.take_length]
  · obtain ⟨p, hp⟩ := si_ok hs
    have ht := h.t hp.lt
    have hb := ox_bounds ht ha
    have hlen : (oxL c a).length = c.length + 1 := by unfold oxL; rw [if_neg hs]; simp [whoL_len]
    have hlat : ∀ k, k < c.length → lat (oxL c a) k = if k = p then lessL (fat c p) (oxE (fat c p).t a) else lat (whoL c) k := by
      intro k hk
      unfold oxL
      rw [if_neg hs, hp.e, Int.toNat_natCast, lat_app (by rw [List.length_set, whoL_len]; exact hk), lat_set (by rw [whoL_len]; exact hp.lt)]
    have hend : lat (oxL c a) c.length = .who 2 (oxA (fat c p).t a) := by
      unfold oxL
      rw [if_neg hs, hp.e, Int.toNat_natCast]
      have e2 : c.length = ((whoL c).set p (lessL (fat c p) (oxE (fat c p).t a))).length := by rw [List.length_set, whoL_len]
      rw [e2, lat_end]
    have h1 : putA (oxL c a) p = c.take p := by
      rw [putA_congr (ms := whoL c) fun k hk => by rw [hlat k (by have := hp.lt; omega), if_neg (by omega)], putA_who h (Nat.le_of_lt hp.lt)]
    have h2 : putA (oxL c a) (p + 1) = putF (c.take p) ⟨1, (fat c p).t - oxE (fat c p).t a⟩ := by
      rw [putA, h1, hlat p hp.lt, if_pos rfl, less_left ⟨hb.1, hb.2.1⟩, hp.m]
    rw [hlen, putA, hend]
    unfold grF
    rw [if_neg hs, hp.e, Int.toNat_natCast]
    show putF (putA (oxL c a) c.length) ⟨2, oxA (fat c p).t a⟩ = _
    rcases hp.top with ⟨e1, e2⟩ | ⟨e1, e2⟩
    · rw [e1, h2]
      have e3 : oxO c = 0 := by unfold oxO; rw [if_neg e2]
      rw [e3, Int.zero_add]
    · have hq : p + 1 < c.length := by omega
      have hto := h.t hq
      have e4 : c.length - 1 = p + 1 := by omega
      rw [e4] at e2
      have e3 : oxO c = (fat c (p + 1)).t := by unfold oxO; rw [e4, if_pos e2]
      rw [e1, putA, h2, hlat (p + 1) hq, if_neg (by omega), whoL_at hq, e2]
      show putF (putF _ ⟨2, (fat c (p + 1)).t⟩) _ = _
      rw [putF_merge _ (by omega) (by omega), e3]
/-- What Oxidise answers. -/
def oxC (s : List (List Flm)) (a : Int) : Int := if secF s = 0 then (if 1 ≤ a ∧ a ≤ 100000 then secF (aftS (fun i => oxL (s.getD i []) a) s.length) else 3) else secF s
def oxS (s : List (List Flm)) (a : Int) : List (List Flm) := if oxC s a = 0 then aftS (fun i => oxL (s.getD i []) a) s.length else []
def ofC (s : List (List Flm)) (a : Int) : Int := if secF s = 0 then (if 1 ≤ a ∧ a ≤ 100000 then 0 else 3) else secF s
theorem ofC_ok {s : List (List Flm)} {a : Int} (h : ofC s a = 0) : GS s ∧ 1 ≤ a ∧ a ≤ 100000 := by
  unfold ofC at h
  split at h
  · rename_i h1
    split at h
    · rename_i h2; exact ⟨secF_zero.1 h1, h2⟩
    · cases h
  · rename_i h1; exact absurd h h1
theorem oxS_sm (s : List (List Flm)) (a : Int) : SmF (oxS s a) := by
  unfold oxS
  split
  · rename_i h
    unfold oxC at h
    split at h
    · split at h
      · exact (secF_zero.1 h).sm
      · cases h
    · rename_i h2; exact absurd h h2
  · exact ⟨by simp, by simp [totF]⟩
theorem ox_st {s : List (List Flm)} (h : GS s) {a : Int} (ha : 1 ≤ a ∧ a ≤ 100000) : ∀ i, i < s.length → (oxL (s.getD i []) a).length ≤ 25 ∧ ∀ k, k < (oxL (s.getD i []) a).length → okL (lat (oxL (s.getD i []) a) k) :=
  fun i hi => ⟨Nat.le_trans oxL_len (by have := (h.col i hi).len; omega), oxL_ok (h.col i hi) ha⟩

end Go.Proofs.Ytceljakmjddgbab

namespace Go.Proofs.Ytceljakmjddgbab
open Go.RowKit
set_option linter.unusedVariables false

/-- What lay in W lies in w still. -/
def KS (W w : World) : Prop := (∀ b o, b < W.heap.size → w.cell? ⟨b, o, none⟩ = W.cell? ⟨b, o, none⟩) ∧ Below W.heap.size W w

theorem KS.of {W w : World} (h : Below W.heap.size W w) : KS W w := ⟨fun b o hb => h.cell (p := ⟨b, o, none⟩) hb, h⟩
theorem KS.start (W : World) : KS W W.drew := KS.of ((Below.refl _ _).drew)
theorem KS.call {W w w' : World} (h : KS W w) (hb : Below w.heap.size w w') : KS W w' := KS.of (h.2.trans (hb.mono h.2.size))
theorem KS.alloc {W w : World} (h : KS W w) (o : Obj) : KS W (w.alloc o) := KS.of (h.2.alloc h.2.size o)
theorem KS.set {W w : World} (h : KS W w) {p : Addr} (hp : W.heap.size ≤ p.block) (u : Value) : KS W (w.setCell p u) := KS.of (h.2.setCell hp u)

end Go.Proofs.Ytceljakmjddgbab
