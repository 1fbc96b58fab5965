/- Proved here: what a device and a list of devices are in memory, and how the laws' package weighs, copies and compares lists of numbers. No condition on the program but on its table of types. -/
import Derived.Test.YtbfieehlekgjeaaGen
import Derived.Test.YtbfieehlekgjeaaIntsBase
import Derived.OpenShut
import Derived.Lib.SmallJoins
namespace Go.Proofs.Ytbfieehlekgjeaa
open Go.ChangeShapes Go.WideShapes Go.ChangeAt Go.RowKit Go.Joins
set_option linter.unusedVariables false
set_option linter.unusedSimpArgs false

def inC (x : Int) : List Value := [.int .i64 x]
theorem inC_len (x : Int) : (inC x).length = 1 := rfl
theorem inC_fm (s : List Int) : s.flatMap inC = s.map (Value.int .i64) := by
  induction s with
  | nil => rfl
  | cons a t ih => rw [List.flatMap_cons, ih]; rfl
theorem og_is {w : World} {B : Nat} {v : Value} {s : List Int} : OG 2 1 inC w B v s ↔ IS w B v s := by
  unfold OG IS; rw [inC_fm]
/-- A slice that can be read as a list of numbers. -/
abbrev RdI (w : World) (v : Value) (s : List Int) : Prop := RG 1 inC w v s
theorem IS.rg {w : World} {B : Nat} {v : Value} {s : List Int} (h : IS w B v s) : RdI w v s := OG.rg inC_len (og_is.2 h)
theorem IS.lt {w : World} {B : Nat} {v : Value} {s : List Int} (h : IS w B v s) : ∀ g, v.ownBlock = some g → B ≤ g ∧ g < w.heap.size := World.ownsRow.lt h
theorem IS.bel {w w' : World} {B : Nat} {v : Value} {s : List Int} (h : IS w B v s) (hb : Below w.heap.size w w') : IS w' B v s := og_is.1 ((og_is.2 h).below hb)
theorem IS.low {w : World} {A B : Nat} {v : Value} {s : List Int} (h : IS w B v s) (hab : A ≤ B) : IS w A v s := og_is.1 (OG.low (og_is.2 h) hab)
/-- From that block on. -/
theorem IS.from {w : World} {B g n c : Nat} {s : List Int} (h : IS w B (.slice (some ⟨g, 0, none⟩) n c) s) : IS w g (.slice (some ⟨g, 0, none⟩) n c) s := by
  refine ⟨h.1, ?_⟩
  rcases h.2 with ⟨h1, _⟩ | ⟨g', cap, cur, h1, h2, h3⟩
  · cases h1
  · refine Or.inr ⟨g', cap, cur, h1, ?_, h3⟩
    simp only [Value.slice.injEq, Option.some.injEq, Addr.mk.injEq, and_true] at h1
    omega
theorem RG.ri {w : World} {v : Value} {s : List Int} (h : RdI w v s) (hn : 0 < s.length) :
    ∃ g o c, v = .slice (some ⟨g, o, none⟩) s.length c ∧ g < w.heap.size ∧ ∀ j, j < s.length → w.cell? ⟨g, o + j, none⟩ = some (.int .i64 (s.getD j 0)) := by
  obtain ⟨g, o, c, rfl, hg, hj⟩ := h.pos hn
  refine ⟨g, o, c, rfl, hg, fun j hl => ?_⟩
  have := hj j hl 0 (by omega)
  simp only [Nat.mul_one, Nat.add_zero] at this
  rw [this]
  simp [inC, List.getElem?_eq_getElem hl]

/-- A device. -/
structure Dv where
  k : Int
  p : List Int
deriving DecidableEq
/-- As it lies in memory. -/
structure Rd where
  k : Int
  a : Option Addr
  n : Nat
  c : Nat
instance : Nonempty Rd := ⟨⟨0, none, 0, 0⟩⟩
def rdC (r : Rd) : List Value := [.int .i64 r.k, .slice r.a r.n r.c]
theorem rdC_len (r : Rd) : (rdC r).length = 2 := rfl
theorem rdC_at {w : World} {g o : Nat} {r : Rd} (h : ∀ i, i < 2 → w.cell? ⟨g, o + i, none⟩ = (rdC r)[i]?) : w.cell? ⟨g, o, none⟩ = some (.int .i64 r.k) ∧ w.cell? ⟨g, o + 1, none⟩ = some (.slice r.a r.n r.c) :=
  ⟨h 0 (by omega), h 1 (by omega)⟩
structure Rd1 (w : World) (r : Rd) (d : Dv) : Prop where
  k : r.k = d.k
  p : RdI w (.slice r.a r.n r.c) d.p
theorem Rd1.below {w w' : World} {r : Rd} {d : Dv} (h : Rd1 w r d) (hb : Below w.heap.size w w') : Rd1 w' r d := ⟨h.k, h.p.below hb⟩
structure RelD (w : World) (rs : List Rd) (s : List Dv) : Prop where
  len : rs.length = s.length
  at_ : ∀ j (h : j < rs.length) (h' : j < s.length), Rd1 w rs[j] s[j]
theorem RelD.below {w w' : World} {rs : List Rd} {s : List Dv} (h : RelD w rs s) (hb : Below w.heap.size w w') : RelD w' rs s := ⟨h.len, fun j h1 h2 => (h.at_ j h1 h2).below hb⟩
/-- A slice that can be read as a list of devices. -/
def RD (w : World) (v : Value) (s : List Dv) : Prop := ∃ rs, RG 2 rdC w v rs ∧ RelD w rs s
theorem RD.below {w w' : World} {v : Value} {s : List Dv} (h : RD w v s) (hb : Below w.heap.size w w') : RD w' v s := by
  obtain ⟨rs, h1, h2⟩ := h; exact ⟨rs, h1.below hb, h2.below hb⟩
theorem RD.len {w : World} {a : Option Addr} {n c : Nat} {s : List Dv} (h : RD w (.slice a n c) s) : n = s.length := by
  obtain ⟨rs, h1, h2⟩ := h; exact h1.len.trans h2.len
theorem RD.form {w : World} {v : Value} {s : List Dv} (h : RD w v s) : ∃ a c, v = .slice a s.length c := by
  obtain ⟨rs, h1, h2⟩ := h
  obtain ⟨a, c, e⟩ := h1.form
  exact ⟨a, c, by rw [e, h2.len]⟩
/-- One device of a list, where it lies. -/
theorem RD.at {w : World} {v : Value} {s : List Dv} (h : RD w v s) {j : Nat} (hj : j < s.length) : ∃ g o c, v = .slice (some ⟨g, o, none⟩) s.length c ∧ g < w.heap.size ∧ ∃ r : Rd, Rd1 w r s[j] ∧ w.cell? ⟨g, o + j * 2, none⟩ = some (.int .i64 r.k) ∧ w.cell? ⟨g, o + j * 2 + 1, none⟩ = some (.slice r.a r.n r.c) := by
  obtain ⟨rs, h1, h2⟩ := h
  have hl := h2.len
  obtain ⟨g, o, c, rfl, hg, hc⟩ := h1.pos (by omega)
  obtain ⟨c0, c1⟩ := rdC_at (hc j (by omega))
  exact ⟨g, o, c, by rw [hl], hg, rs[j], h2.at_ j (by omega) hj, c0, c1⟩

/-- No list is longer than m. -/
def smD (m : Int) (d : Dv) : Prop := (d.p.length : Int) ≤ m
def okD (d : Dv) : Prop := d.p.length ≤ maxLen

set_option maxHeartbeats 800000 in
theorem szInt64S_gen (a : Option Addr) (n c : Nat) (l : Int) (w : World) (h0 : 0 ≤ l) (h1 : l ≤ 1048576) (h2 : n ≤ maxLen) :
    Calls Try.prog 86 #[.slice a n c, .int .i64 l] w fun e w' => ∃ r, e = .returned (.int .i64 r) ∧ (r < 0 ∨ (0 ≤ r ∧ r ≤ l ∧ (n : Int) ≤ l)) ∧ Below w.heap.size w w' := by
  unfold maxLen at h2
  have hw : IntKind.i64.wrap (l - (n : Int)) = l - (n : Int) := by rw [IntKind.wrap_i64]; omega
  by_cases hn : l - (n : Int) < 0
  · go_enter Try.func86, Try.ntmps86
    go_wp2
    go_returns
    exact ⟨-1, rfl, Or.inl (by omega), by (repeat' (first | (with_reducible exact Below.refl _ _) | (with_reducible assumption) | (with_reducible refine Below.setCell ?_ ?_ _) | (with_reducible refine Below.alloc ?_ ?_ _) | (with_reducible refine below_drewN ?_ _) | (with_reducible refine Below.drew ?_) | (with_reducible exact Nat.le_refl _) | omega | (simp; done) | (simp; omega)))⟩
  · go_enter Try.func86, Try.ntmps86
    go_wp2
    go_returns
    exact ⟨_, rfl, Or.inr ⟨by omega, by omega, by omega⟩, by (repeat' (first | (with_reducible exact Below.refl _ _) | (with_reducible assumption) | (with_reducible refine Below.setCell ?_ ?_ _) | (with_reducible refine Below.alloc ?_ ?_ _) | (with_reducible refine below_drewN ?_ _) | (with_reducible refine Below.drew ?_) | (with_reducible exact Nat.le_refl _) | omega | (simp; done) | (simp; omega)))⟩

set_option maxHeartbeats 800000 in
theorem szDevice_gen (r : Rd) (d : Dv) (l : Int) (w : World) (h0 : 0 ≤ l) (h1 : l ≤ 1048576) (hd : okD d) (h : Rd1 w r d) :
    Calls Try.prog 70 #[.agg #[.int .i64 r.k, .slice r.a r.n r.c], .int .i64 l] w fun e w' => ∃ q, e = .returned (.int .i64 q) ∧ (q < 0 ∨ (0 ≤ q ∧ q ≤ l ∧ smD l d)) ∧ Below w.heap.size w w' := by
  have H : Hid (r.n ≤ maxLen ∧ r.n = d.p.length) := ⟨by rw [h.p.len]; exact hd, h.p.len⟩
  clear h hd
  go_enter Try.func70, Try.ntmps70
  go_wp2_with (fail)
  refine (szInt64S_gen r.a r.n r.c l _ h0 h1 H.out.1).mono ?_
  rintro e w1 ⟨q1, rfl, hq1, hb1⟩
  have HB1 : Hid (Below w.heap.size w w1) := (show Below w.heap.size w _ from by (repeat' (first | (with_reducible exact Below.refl _ _) | (with_reducible assumption) | (with_reducible refine Below.setCell ?_ ?_ _) | (with_reducible refine Below.alloc ?_ ?_ _) | (with_reducible refine below_drewN ?_ _) | (with_reducible refine Below.drew ?_) | (with_reducible exact Nat.le_refl _) | omega | (simp; done) | (simp; omega)))).trans (hb1.mono (by simp))
  clear hb1
  rcases hq1 with hneg | ⟨h3, h4, h5⟩
  · go_wp2
    go_returns
    exact ⟨-1, rfl, Or.inl (by omega), HB1.out⟩
  have h6 : ¬ q1 < 0 := by omega
  have HS : Hid (smD l d) := by unfold Hid smD; rw [← H.out.2]; exact h5
  go_wp2
  go_returns
  exact ⟨q1, rfl, Or.inr ⟨h3, h4, HS.out⟩, HB1.out⟩

set_option maxHeartbeats 1600000 in
theorem szDeviceS_gen (a : Option Addr) (n c : Nat) (l : Int) (s : List Dv) (w : World) (h0 : 0 ≤ l) (h1 : l ≤ 1048576) (h2 : n ≤ maxLen) (h : RD w (.slice a n c) s) (hm : ∀ j (h : j < s.length), okD s[j]) :
    Calls Try.prog 44 #[.slice a n c, .int .i64 l] w fun e w' => ∃ r, e = .returned (.int .i64 r) ∧ (r < 0 ∨ (0 ≤ r ∧ r ≤ l ∧ (n : Int) ≤ l ∧ ∀ j (h : j < s.length), smD l s[j])) ∧ Below w.heap.size w w' := by
  unfold maxLen at h2
  have H : Hid (RD w (.slice a n c) s ∧ n = s.length ∧ ∀ j (h : j < s.length), okD s[j]) := ⟨h, h.len, hm⟩
  clear h hm
  have hw : IntKind.i64.wrap (l - (n : Int)) = l - (n : Int) := by rw [IntKind.wrap_i64]; omega
  by_cases hn : l - (n : Int) < 0
  · go_enter Try.func44, Try.ntmps44
    go_wp2
    go_returns
    exact ⟨-1, rfl, Or.inl (by omega), by (repeat' (first | (with_reducible exact Below.refl _ _) | (with_reducible assumption) | (with_reducible refine Below.setCell ?_ ?_ _) | (with_reducible refine Below.alloc ?_ ?_ _) | (with_reducible refine below_drewN ?_ _) | (with_reducible refine Below.drew ?_) | (with_reducible exact Nat.le_refl _) | omega | (simp; done) | (simp; omega)))⟩
  · have HL : Hid ((n : Int) ≤ l) := by unfold Hid; omega
    obtain ⟨l1, hl1⟩ : ∃ l1, l1 = l - (n : Int) := ⟨_, rfl⟩
    have hl0 : 0 ≤ l1 := by omega
    have hll : l1 ≤ l := by omega
    rw [← hl1] at hw hn
    have hw2 : IntKind.i64.wrap (l - (n : Int)) = l1 := by rw [← hl1]; exact hw
    clear hl1 hw
    go_enter Try.func44, Try.ntmps44
    go_wp2
    go_loopw [1, 5] (fun q i wr => ∃ (j : Nat) (r : Int), j ≤ n ∧ i = .int .i64 j ∧ q = .int .i64 r ∧ 0 ≤ r ∧ r ≤ l ∧ Hid (Below w.heap.size w wr ∧ ∀ k (h : k < s.length), k < j → smD l s[k])) (fun _ i _ => n - (intOf i).toNat)
    case atStart => exact ⟨0, l1, Nat.zero_le _, rfl, by simp [hw2], hl0, hll, Below.refl _ _, fun k _ hk => by omega⟩
    case round =>
      obtain ⟨j, r, hjn, rfl, rfl, hr0, hrl, hR⟩ := hrel
      by_cases hlt : j < n
      · have hjl : j < s.length := by rw [← H.out.2.1]; exact hlt
        obtain ⟨g, o, c2, he, hg, x, hx, c0, c1⟩ := (H.out.1.below hR.out.1).at hjl
        simp only [Value.slice.injEq] at he
        obtain ⟨rfl, hx1, hx2⟩ := he
        clear hx1 hx2
        have HX : Hid (Rd1 wr x s[j] ∧ okD s[j]) := ⟨hx, H.out.2.2 j hjl⟩
        clear hx
        have b0 : (0 : Int) ≤ (j : Int) := by omega
        have b1 : (j : Int) < (n : Int) := by omega
        go_wp2_with (fail)
        refine (szDevice_gen x s[j] r _ hr0 (by omega) HX.out.2 HX.out.1).mono ?_
        rintro e w3 ⟨r2, rfl, hr2, hb3⟩
        have HB3 : Hid (Below w.heap.size w w3) := hR.out.1.trans (hb3.mono hR.out.1.size)
        clear hb3 c0 c1
        rcases hr2 with hneg | ⟨h3, h4, h5⟩
        · go_wp2
          go_returns
          exact ⟨-1, rfl, Or.inl (by omega), HB3.out⟩
        · have HS : Hid (∀ k (h : k < s.length), k < j + 1 → smD l s[k]) := fun k hk hkj => by
            rcases (by omega : k < j ∨ k = j) with e | rfl
            · exact hR.out.2 k hk e
            · unfold smD at h5 ⊢; omega
          have h6 : ¬ r2 < 0 := by omega
          clear hR h5
          go_wp2
          go_roundw
          case rel => exact ⟨j + 1, r2, by omega, by go_num, rfl, h3, by omega, HB3.out, HS.out⟩
          case measure => simp [intOf]; omega
      · have HS : Hid (Below w.heap.size w wr ∧ ∀ k (h : k < s.length), smD l s[k]) := ⟨hR.out.1, fun k hk => hR.out.2 k hk (by rw [← H.out.2.1] at hk; omega)⟩
        clear hR
        go_wp2
        go_returns
        exact ⟨r, rfl, Or.inr ⟨hr0, hrl, HL.out, HS.out.2⟩, HS.out.1⟩

set_option maxHeartbeats 800000 in
theorem szNetlist_gen (N : Int) (a : Option Addr) (n c : Nat) (l : Int) (s : List Dv) (w : World) (h0 : 0 ≤ l) (h1 : l ≤ 1048576) (h2 : n ≤ maxLen) (h : RD w (.slice a n c) s) (hm : ∀ j (h : j < s.length), okD s[j]) :
    Calls Try.prog 13 #[.agg #[.int .i64 N, .slice a n c], .int .i64 l] w fun e w' => ∃ r, e = .returned (.int .i64 r) ∧ (r < 0 ∨ (0 ≤ r ∧ r ≤ l ∧ (n : Int) ≤ l ∧ ∀ j (h : j < s.length), smD l s[j])) ∧ Below w.heap.size w w' := by
  have H : Hid (RD w (.slice a n c) s ∧ n ≤ maxLen ∧ ∀ j (h : j < s.length), okD s[j]) := ⟨h, h2, hm⟩
  clear h hm h2
  go_enter Try.func13, Try.ntmps13
  go_wp2_with (fail)
  refine (szDeviceS_gen a n c l s _ h0 h1 H.out.2.1 (H.out.1.below (by (repeat' (first | (with_reducible exact Below.refl _ _) | (with_reducible assumption) | (with_reducible refine Below.setCell ?_ ?_ _) | (with_reducible refine Below.alloc ?_ ?_ _) | (with_reducible refine below_drewN ?_ _) | (with_reducible refine Below.drew ?_) | (with_reducible exact Nat.le_refl _) | omega | (simp; done) | (simp; omega))))) H.out.2.2).mono ?_
  rintro e w1 ⟨q1, rfl, hq1, hb1⟩
  have HB1 : Hid (Below w.heap.size w w1) := (show Below w.heap.size w _ from by (repeat' (first | (with_reducible exact Below.refl _ _) | (with_reducible assumption) | (with_reducible refine Below.setCell ?_ ?_ _) | (with_reducible refine Below.alloc ?_ ?_ _) | (with_reducible refine below_drewN ?_ _) | (with_reducible refine Below.drew ?_) | (with_reducible exact Nat.le_refl _) | omega | (simp; done) | (simp; omega)))).trans (hb1.mono (by simp))
  clear hb1
  rcases hq1 with hneg | ⟨h3, h4, h5⟩
  · go_wp2
    go_returns
    exact ⟨-1, rfl, Or.inl (by omega), HB1.out⟩
  have h6 : ¬ q1 < 0 := by omega
  have HS : Hid ((n : Int) ≤ l ∧ ∀ j (h : j < s.length), smD l s[j]) := h5
  clear h5
  go_wp2
  go_returns
  exact ⟨q1, rfl, Or.inr ⟨h3, h4, HS.out⟩, HB1.out⟩

set_option maxRecDepth 10000 in
set_option maxHeartbeats 3200000 in
theorem toInt64S_any {w : World} {v : Value} {s : List Int} (hn : s.length ≤ 1048576) (h : RdI w v s) :
    Calls Try.prog 19 #[v] w fun e w' => ∃ g, e = .returned (.slice (some ⟨g, 0, none⟩) s.length s.length) ∧ IS w' w.heap.size (.slice (some ⟨g, 0, none⟩) s.length s.length) s ∧ Below w.heap.size w w' := by
  obtain ⟨a, c, rfl⟩ := h.form
  have H : Hid (RdI w (.slice a s.length c) s) := h
  clear h
  obtain ⟨i0, hi, hz0, hz1, hz2⟩ := info_parts info_i64
  obtain ⟨n, hnn⟩ : ∃ n, n = s.length := ⟨_, rfl⟩
  have HN : Hid (n = s.length) := hnn
  rw [← hnn] at hn H ⊢
  clear hnn
  go_enter Try.func19, Try.ntmps19
  go_wp2_with (at_make; refine wpList_make_full _ rfl _ _ 46 rfl w.heap.size 2 i0 (.int .i64 0) 1 Try.underlying46 hi hz0 hz1 _ _ _ _ n rfl rfl rfl rfl (by rw [hz2]; omega) (by unfold maxLen; omega) (Nat.le_refl _) ?_; intro w2 hown2 hgrow2)
  have hb2 : Below w.heap.size w w2 := (Below.refl _ _).grown hgrow2 (Nat.le_refl _) (fun k h => by cases h)
  have HS : Hid (Fill 2 1 inC w2 w.heap.size w.heap.size n s 0 ∧ Below w.heap.size w w2) := ⟨⟨_, hown2, fun t ht => by omega⟩, hb2⟩
  clear hown2 hgrow2 hb2
  go_loopw [4] (fun i wr => ∃ j : Nat, j ≤ n ∧ i = .int .i64 j ∧ Hid (Fill 2 1 inC wr w.heap.size w.heap.size n s j ∧ Below w.heap.size w wr)) (fun i _ => n - (intOf i).toNat)
  case atStart => exact ⟨0, Nat.zero_le _, rfl, HS.out⟩
  case round =>
    clear HS
    obtain ⟨j, hjn, rfl, hR⟩ := hrel
    by_cases hlt : j < n
    · have hjl : j < s.length := by rw [← HN.out]; exact hlt
      obtain ⟨g, o, c2, he, hg, hj⟩ := (H.out.below hR.out.2).ri (by rw [← HN.out]; omega)
      simp only [Value.slice.injEq] at he
      obtain ⟨rfl, hx1, hx2⟩ := he
      clear hx1 hx2
      have c0 := hj j hjl
      obtain ⟨x, hx⟩ : ∃ x, x = s.getD j 0 := ⟨_, rfl⟩
      rw [← hx] at c0
      have HX : Hid (x = s[j]) := by unfold Hid; rw [hx]; simp [List.getD_eq_getElem?_getD, List.getElem?_eq_getElem hjl]
      clear hx hj
      have b0 : (0 : Int) ≤ (j : Int) := by omega
      have b1 : (j : Int) < (n : Int) := by omega
      obtain ⟨⟨u0, g0⟩, f0⟩ := hR.out.1.there j (by omega)
      have HP : Hid (Fill 2 1 inC (wr.setCell ⟨w.heap.size, j, none⟩ (.int .i64 x)) w.heap.size w.heap.size n s (j + 1) ∧ Below w.heap.size w (wr.setCell ⟨w.heap.size, j, none⟩ (.int .i64 x))) := by
        have h1 := hR.out.1.put inC_len HN.out hjl
        rw [← HX.out] at h1
        simp only [Nat.mul_one, inC, putsAt, Nat.add_zero] at h1
        exact ⟨h1, hR.out.2.setCell (Nat.le_refl _) _⟩
      clear hR
      go_wp2
      go_roundw
      case rel => exact ⟨j + 1, by omega, by go_num, HP.out⟩
      case measure => simp [intOf]; omega
    · have HD : Hid (IS wr w.heap.size (.slice (some ⟨w.heap.size, 0, none⟩) n n) s ∧ Below w.heap.size w wr) := ⟨og_is.1 (hR.out.1.done inC_len HN.out (by rw [← HN.out]; omega)), hR.out.2⟩
      clear hR
      go_wp2
      go_returns
      exact ⟨w.heap.size, rfl, HD.out.1, HD.out.2⟩

set_option maxHeartbeats 1600000 in
theorem eqInt64S_same {w : World} {va vb : Value} {s : List Int} (hn : s.length ≤ 1099511627776) (ha : RdI w va s) (hb : RdI w vb s) :
    Calls Try.prog 22 #[va, vb] w fun e w' => e = .returned (.bool true) ∧ Below w.heap.size w w' := by
  obtain ⟨a1, c1', rfl⟩ := ha.form
  obtain ⟨a2, c2', rfl⟩ := hb.form
  obtain ⟨n, hnn⟩ : ∃ n, n = s.length := ⟨_, rfl⟩
  rw [← hnn] at hn ha hb ⊢
  have H : Hid (RdI w (.slice a1 n c1') s ∧ RdI w (.slice a2 n c2') s ∧ n = s.length) := ⟨ha, hb, hnn⟩
  clear ha hb hnn
  go_enter Try.func22, Try.ntmps22
  go_wp2
  go_loopw [5] (fun i wr => ∃ j : Nat, j ≤ n ∧ i = .int .i64 j ∧ Hid (Below w.heap.size w wr)) (fun i _ => n - (intOf i).toNat)
  case atStart => exact ⟨0, Nat.zero_le _, rfl, Below.refl _ _⟩
  case round =>
    obtain ⟨j, hjn, rfl, hR⟩ := hrel
    by_cases hlt : j < n
    · have hjl : j < s.length := by rw [← H.out.2.2]; exact hlt
      obtain ⟨g, o, d1, he, hg, hj⟩ := (H.out.1.below hR.out).ri (by rw [← H.out.2.2]; omega)
      simp only [Value.slice.injEq] at he
      obtain ⟨rfl, hx1, hx2⟩ := he
      obtain ⟨g', o', d2, he', hg', hj'⟩ := (H.out.2.1.below hR.out).ri (by rw [← H.out.2.2]; omega)
      simp only [Value.slice.injEq] at he'
      obtain ⟨rfl, hx3, hx4⟩ := he'
      clear hx1 hx2 hx3 hx4
      have c0 := hj j hjl
      have e0 := hj' j hjl
      obtain ⟨x, hx⟩ : ∃ x, x = s.getD j 0 := ⟨_, rfl⟩
      rw [← hx] at c0 e0
      clear hx hj hj'
      have b0 : (0 : Int) ≤ (j : Int) := by omega
      have b1 : (j : Int) < (n : Int) := by omega
      go_wp2
      go_quiet (fail)
      go_wp2
      go_roundw
      case rel => exact ⟨j + 1, by omega, by go_num, below_drewN hR.out _⟩
      case measure => simp [intOf]; omega
    · go_wp2
      go_returns
      exact ⟨rfl, hR.out⟩

end Go.Proofs.Ytbfieehlekgjeaa
