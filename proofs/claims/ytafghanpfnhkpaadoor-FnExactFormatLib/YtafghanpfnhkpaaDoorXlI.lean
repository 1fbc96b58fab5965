/- Proved here: a line that the program writes to a builder. -/
import Derived.Test.YtafghanpfnhkpaaDoorXlN
import Derived.Test.YtafghanpfnhkpaaDoorXbI
namespace Go.Proofs.YtafghanpfnhkpaaDoor
open Go.ChangeShapes Go.WideShapes Go.ChangeAt Go.RowKit Go.Joins
set_option linter.unusedVariables false
set_option linter.unusedSimpArgs false

theorem NSl.ok {w w' : World} {v : Value} {ns : List Int} {B b : Nat} {l : List UInt8} (h : NSl w v ns) (hs : SBu B b l w) (ho : OKb b w w') : NSl w' v ns := by
  obtain ⟨ao, rfl, h⟩ := h
  refine ⟨ao, rfl, fun hn => ?_⟩
  obtain ⟨g, fz, rfl, hg⟩ := h hn
  refine ⟨g, fz, rfl, ho g _ hg ?_ (fun c fz2 e => by injection e with _ e _; exact absurd e (by decide))⟩
  intro e
  injection e with e
  subst e
  rcases hs with ⟨_, v, hb, _⟩ | ⟨_, v, hb, _⟩
  · rw [hg] at hb; injection hb with hb; injection hb with _ hb _; exact absurd hb (by decide)
  · rw [hg] at hb; injection hb with hb; injection hb with _ hb _; exact absurd hb (by decide)
theorem bat_next {T e B b : Nat} {p : Value} {bs : List Value} {w w' : World} (h : Lib.BuilderAt T e B b p bs w) (hb : Below w.heap.size w w') : Lib.BuilderAt T e B b p bs w' := by
  have hl := h.lt
  obtain ⟨hB, v, hk, hown, hne⟩ := h
  exact ⟨hB, v, (hb.block b hl).trans hk, World.ownsRow.kept (row := none) hown ⟨hb.os, hb.tape, hb.output, hb.size, fun k hk _ => hb.block k hk⟩ (by cases v.ownBlock <;> simp), hne⟩
theorem SBu.next {B b : Nat} {l : List UInt8} {w w' : World} (h : SBu B b l w) (hb : Below w.heap.size w w') : SBu B b l w' := by
  rcases h with h | h
  · exact Or.inl (bat_next h hb)
  · exact Or.inr (bat_next h hb)
theorem SBu.lo {B b : Nat} {l : List UInt8} {w : World} (h : SBu B b l w) : B ≤ b ∧ b < w.heap.size := by
  rcases h with h | h
  · exact ⟨h.1, h.lt⟩
  · exact ⟨h.1, h.lt⟩
theorem OKb.of {b : Nat} {w w' : World} (hb : Below w.heap.size w w') : OKb b w w' := fun k o h _ _ => by
  refine (hb.block k ?_).trans h
  rcases Nat.lt_or_ge k w.heap.size with h' | h'
  · exact h'
  · rw [Array.getElem?_eq_none h'] at h; cases h
/-- The table of powers of ten lies there, whatever is written from B on. -/
def TBb (B : Nat) (w : World) : Prop := ∀ X, Below B w X → Tab X
theorem TBb.step {B : Nat} {w w' : World} (h : TBb B w) (hb : Below B w w') : TBb B w' := fun X hX => h X (hb.trans hX)
set_option maxHeartbeats 6400000 in
set_option maxRecDepth 100000 in
theorem impl_wl (B b : Nat) (X s : ByteArray) (v : Value) (ns : List Int) (w : World) (ht : Hid (TBb B w)) (hS : SBu B b X.data.toList w) (hN : NSl w v ns) (hns : ∀ n ∈ ns, -1000000000 ≤ n ∧ n ≤ 1000000000) (hn3 : ns.length ≤ 10) (hsz : X.size + s.size ≤ 10000000000000) :
    Calls Tryd.prog 26 #[.pointer (some ⟨b, 0, none⟩), .string s, v] w fun e w' => (∃ v, e = .returned v) ∧ SBa B b (X ++ linN s ns).data.toList w' ∧ Below B w w' ∧ OKb b w w' := by
  obtain ⟨ao, rfl, _⟩ := id hN
  have hBb := hS.lo
  have hXl : X.data.toList.length = X.size := rfl
  have HN : Hid (NSl w (.slice ao ns.length ns.length) ns ∧ (∀ n ∈ ns, -1000000000 ≤ n ∧ n ≤ 1000000000) ∧ SBu B b X.data.toList w) := ⟨hN, hns, hS⟩
  obtain ⟨m, hm⟩ : ∃ m, m = ns.length := ⟨_, rfl⟩
  have HM : Hid (m = ns.length) := hm
  have hm10 : m ≤ 10 := by omega
  rw [← hm] at HN ⊢
  have HW0 : Hid (Calls Tryd.prog 41 #[.pointer (some ⟨b, 0, none⟩), .string s] w fun e w' => (∃ v, e = .returned v) ∧ SBa B b (X ++ s).data.toList w' ∧ Below B w w' ∧ OKb b w w') := by
    rw [ba_list]
    exact sb_str B b _ s w hS (by rw [hXl]; omega) (by omega)
  clear hN hns hS hm hXl hn3
  go_enter Tryd.func26, Tryd.ntmps26
  go_wp2_with (fail)
  refine HW0.out.mono ?_
  rintro e w1 ⟨⟨r1, rfl⟩, h1, hb1, ho1⟩
  have HB1 : Hid (SBa B b (X ++ s).data.toList w1 ∧ Below B w w1 ∧ OKb b w w1) := ⟨h1, hb1, ho1⟩
  clear h1 hb1 ho1 HW0
  go_wp2
  go_loopw [13] (fun i wr => ∃ t : Nat, i = .int .i64 t ∧ t ≤ m ∧ Hid (SBa B b (X ++ numL s (ns.take t)).data.toList wr ∧ Below B w wr ∧ OKb b w wr)) (fun i _ => m - (intOf i).toNat)
  case atStart => exact ⟨0, rfl, Nat.zero_le _, HB1.out⟩
  case round =>
    clear HB1
    obtain ⟨t, rfl, htm, hR⟩ := hrel
    have hXs : (X ++ numL s (ns.take t)).size ≤ 10000000000000 + 10 * 2000000001 := by
      rw [ba_size]
      have h1 := numL_size s (ns.take t) (fun n hn => HN.out.2.1 n (List.mem_of_mem_take hn))
      have h2 : (ns.take t).length ≤ 10 := by rw [List.length_take]; omega
      omega
    by_cases hlt : t < m
    · have htl : t < ns.length := by rw [← HM.out]; exact hlt
      obtain ⟨g, hg1, hg2, hg3⟩ := (HN.out.1.ok HN.out.2.2 hR.out.2.2).at htl
      subst hg1
      obtain ⟨n, hn⟩ : ∃ n, n = ns[t] := ⟨_, rfl⟩
      have hnb := HN.out.2.1 ns[t] (List.getElem_mem _)
      rw [← hn] at hg3 hnb
      obtain ⟨Y, hY⟩ : ∃ Y, Y = X ++ numL s (ns.take t) := ⟨_, rfl⟩
      have hYl : Y.data.toList.length = Y.size := rfl
      rw [← hY] at hXs
      have HI := itoaS_size n hnb.1 hnb.2
      have hlow := hR.out.1.bu.lo
      have HY : Hid ((Y ++ ⟨#[32]⟩) ++ itoaS n = X ++ numL s (ns.take (t + 1))) := by
        unfold Hid
        rw [List.take_add_one, List.getElem?_eq_getElem htl]
        show _ = X ++ numL s (ns.take t ++ [ns[t]])
        rw [numL_snoc, ← hn, hY]
        rw [ba_assoc, ba_assoc, ← ba_assoc (numL s (List.take t ns))]
      have HC1 : Hid (Calls Tryd.prog 42 #[.pointer (some ⟨b, 0, none⟩), .int .u8 32] wr fun e w' => (∃ v, e = .returned v) ∧ SBa B b (Y ++ ⟨#[32]⟩).data.toList w' ∧ Below B wr w' ∧ OKb b wr w') := by
        rw [ba_list, hY]
        exact sb_byte B b _ 32 32 rfl wr hR.out.1.bu (by rw [← hY, hYl]; omega) (by omega)
      have HR : Hid (Below B w wr ∧ OKb b w wr) := hR.out.2
      clear hR hn hY hYl
      have b0 : (0 : Int) ≤ (t : Int) := by omega
      have b1 : (t : Int) < (m : Int) := by omega
      go_wp2_with (fail)
      refine HC1.out.mono ?_
      rintro e w2 ⟨⟨r2, rfl⟩, h2, hb2, ho2⟩
      have HB2 : Hid (SBa B b (Y ++ ⟨#[32]⟩).data.toList w2 ∧ Below B w w2 ∧ OKb b w w2) := ⟨h2, HR.out.1.trans hb2, HR.out.2.trans ho2⟩
      clear HC1 h2 hb2 ho2 HR hg3 hg2
      go_wp2_with (fail)
      refine (fi_any n w2 hnb.1 hnb.2 (ht.out w2 HB2.out.2.1)).mono ?_
      rintro e w3 ⟨rfl, hb3⟩
      have hlow2 := HB2.out.1.bu.lo
      have HB3 : Hid (SBu B b (Y ++ ⟨#[32]⟩).data.toList w3 ∧ Below B w w3 ∧ OKb b w w3) := ⟨HB2.out.1.bu.next hb3, HB2.out.2.1.trans (hb3.mono (by omega)), HB2.out.2.2.trans (OKb.of hb3)⟩
      have hlow3 := HB3.out.1.lo
      have HC2 : Hid (Calls Tryd.prog 41 #[.pointer (some ⟨b, 0, none⟩), .string (itoaS n)] w3 fun e w' => (∃ v, e = .returned v) ∧ SBa B b ((Y ++ ⟨#[32]⟩) ++ itoaS n).data.toList w' ∧ Below B w3 w' ∧ OKb b w3 w') := by
        rw [ba_list (Y ++ ⟨#[32]⟩)]
        refine sb_str B b _ (itoaS n) w3 HB3.out.1 ?_ (by omega)
        have e9 : (Y ++ (⟨#[32]⟩ : ByteArray)).data.toList.length = Y.size + 1 := by
          have := ba_size Y ⟨#[32]⟩
          rw [one_size] at this
          exact this
        rw [e9]; omega
      clear hb3 HB2
      go_wp2_with (fail)
      refine HC2.out.mono ?_
      rintro e w4 ⟨⟨r4, rfl⟩, h4, hb4, ho4⟩
      have HB4 : Hid (SBa B b (X ++ numL s (ns.take (t + 1))).data.toList w4 ∧ Below B w w4 ∧ OKb b w w4) := ⟨by rw [← HY.out]; exact h4, HB3.out.2.1.trans hb4, HB3.out.2.2.trans ho4⟩
      clear HC2 h4 hb4 ho4 HB3 HY
      go_wp2
      go_roundw
      case rel => exact ⟨t + 1, by go_num, by omega, HB4.out⟩
      case measure => simp [intOf]; omega
    · obtain ⟨Y, hY⟩ : ∃ Y, Y = X ++ numL s ns := ⟨_, rfl⟩
      have hYt : X ++ numL s (ns.take t) = Y := by rw [hY, List.take_of_length_le (by rw [← HM.out]; omega)]
      rw [hYt] at hXs
      have HR := hR.out
      rw [hYt] at HR
      have hlow := HR.1.bu.lo
      have HE : Hid (Y ++ ⟨#[10]⟩ = X ++ linN s ns) := by unfold Hid; rw [hY]; unfold linN; rw [ba_assoc]
      have HC1 : Hid (Calls Tryd.prog 42 #[.pointer (some ⟨b, 0, none⟩), .int .u8 10] wr fun e w' => (∃ v, e = .returned v) ∧ SBa B b (Y ++ ⟨#[10]⟩).data.toList w' ∧ Below B wr w' ∧ OKb b wr w') := by
        rw [ba_list]
        exact sb_byte B b _ 10 10 rfl wr HR.1.bu (by have e9 : Y.data.toList.length = Y.size := rfl; rw [e9]; omega) (by omega)
      have HR2 : Hid (Below B w wr ∧ OKb b w wr) := HR.2
      clear HR hR hY hYt
      go_wp2_with (fail)
      refine HC1.out.mono ?_
      rintro e w2 ⟨⟨r2, rfl⟩, h2, hb2, ho2⟩
      have HB2 : Hid (SBa B b (X ++ linN s ns).data.toList w2 ∧ Below B w w2 ∧ OKb b w w2) := ⟨by rw [← HE.out]; exact h2, HR2.out.1.trans hb2, HR2.out.2.trans ho2⟩
      clear HC1 h2 hb2 ho2 HR2 HE
      go_wp2
      go_end0
      exact ⟨⟨_, rfl⟩, HB2.out⟩
end Go.Proofs.YtafghanpfnhkpaaDoor
