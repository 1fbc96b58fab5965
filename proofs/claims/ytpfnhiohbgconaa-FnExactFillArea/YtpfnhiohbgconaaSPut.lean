/- Proved here: the model's putting of a number into a rising list. -/
import Derived.Test.YtpfnhiohbgconaaBoxBase
import Derived.Deep.AppendLies
import Derived.Laws.AppendOwnNone
namespace Go.Proofs.Ytpfnhiohbgconaa
open Go.RowKit
set_option linter.unusedVariables false
set_option linter.unusedSimpArgs false

theorem IS.cases {w : World} {B : Nat} {v : Value} {xs : List Int} (h : IS w B v xs) : (v = .slice none 0 0 ∧ xs = []) ∨
    ∃ g cap, v = .slice (some ⟨g, 0, none⟩) xs.length cap ∧ xs.length ≤ cap ∧ cap ≤ maxLen ∧ B ≤ g ∧ g < w.heap.size ∧ (∀ j, j < xs.length → w.cell? ⟨g, j, none⟩ = some (.int .i64 (xs.getD j 0))) := by
  rcases h.2 with ⟨rfl, h0⟩ | ⟨g, cap, cur, rfl, hB, hg, hn, hm, hs, ht⟩
  · exact Or.inl ⟨rfl, List.length_eq_zero_iff.1 h0⟩
  · refine Or.inr ⟨g, cap, rfl, hn, hm, hB, ?_, fun j hj => ?_⟩
    · rcases Nat.lt_or_ge g w.heap.size with h' | h'
      · exact h'
      · rw [Array.getElem?_eq_none h'] at hg; cases hg
    · have := World.ownsRow.cellAt (w := w) (g := g) (cap := cap) h j (by omega)
      rw [this]
      simp [List.getElem?_map, List.getElem?_eq_getElem hj]

/-- An append to a row of the call's own of what may be nil, empty, or cut at its end. -/
theorem append_own_any {P : Program} {w : World} {ops : Array Oper} {rest : List Oper} {o : Oper} {a : Act} {Q : Exit → Act → World → Prop} (hgd : o.guard = none) (s x : Operand) (t : TypeId)
    (ho : o.op = .call { callee := .builtin .append, args := #[s, x], argTypes := #[t, t] })
    (base : Nat) (e : TypeId) (i : TypeInfo) (z : Value) (size bytes : Nat) (ht : P.underlying t = some (.slice e)) (hi : P.info? e = some i) (hz : i.zero = some z)
    (hsize : i.size = size) (hby : i.bytes = bytes) (hzs : z.cells.size = size) (hsz : 0 < size)
    (v : Value) (n : Nat) (xs : List Value) (hs : a.eval s = v) (hown : w.ownsRow base e size v n xs)
    (ao : Option Addr) (m c : Nat) (news : List Value) (hx : a.eval x = .slice ao m c) (hl : news.length = m * size) (hnone : ao = none → m = 0 ∧ c = 0) (hnews : ∀ ad, ao = some ad → ∀ j u, news[j]? = some u → w.cell? (ad.add j) = some u) (h1 : ∀ u ∈ news, u.oneCell' = true)
    (h63 : n + m ≤ maxLen) (hbytes : (n + m) * bytes ≤ 140737488355328) (hbase : base ≤ w.heap.size)
    (h : ∀ v' w', w'.ownsRow base e size v' (n + m) (xs ++ news) → w.grownBy w' v.ownBlock → (v ≠ .slice none 0 0 → v' ≠ .slice none 0 0) → wpList P ops Q rest (a.put o.dst v') w') : wpList P ops Q (o :: rest) a w := by
  cases ao with
  | some ad => exact wpList_append_own w hgd s x t ho base e i z size bytes ht hi hz hsize hby hzs hsz v n xs hs hown ad m c news hx hl (hnews ad rfl) h1 h63 hbytes hbase fun v' w' h2 h3 h4 => h v' w' h2 h3 (fun hn hv => hn (h4.1 hv).1)
  | none =>
    obtain ⟨rfl, rfl⟩ := hnone rfl
    obtain rfl : news = [] := List.eq_nil_of_length_eq_zero (by simpa using hl)
    refine wpList_append_own_none hgd s x t ho base e i size ht hi v n xs hs hown hx (h v w (by simpa using hown) ⟨rfl, rfl, rfl, Nat.le_refl _, fun k _ _ => rfl⟩ id)

theorem getD_get {xs : List Int} {j : Nat} (h : j < xs.length) : xs.getD j 0 = xs[j] := by simp [h]
theorem put_take {w W : World} {g n k : Nat} {xs : List Int} (hl : xs.length = n) (hg : g < w.heap.size) (h : ∀ j, j < n → w.cell? ⟨g, j, none⟩ = some (.int .i64 (xs.getD j 0))) (hb : Below w.heap.size w W) :
    ∀ j u, ((xs.take k).map (Value.int .i64))[j]? = some u → W.cell? ((⟨g, 0, none⟩ : Addr).add j) = some u := by
  intro j u hu
  rw [List.getElem?_map, List.getElem?_take] at hu
  split at hu
  · rcases Nat.lt_or_ge j xs.length with hj | hj
    · rw [List.getElem?_eq_getElem hj] at hu
      rw [Addr.add_lit, Nat.zero_add, hb.cell (p := ⟨g, j, none⟩) hg, h j (by omega)]
      rw [← hu]
      simp [hj]
    · rw [List.getElem?_eq_none hj] at hu; cases hu
  · cases hu
theorem put_drop {w W : World} {g n k cap : Nat} {xs : List Int} (hl : xs.length = n) (hc : n ≤ cap) (hk : k ≤ n) (hg : g < w.heap.size) (h : ∀ j, j < n → w.cell? ⟨g, j, none⟩ = some (.int .i64 (xs.getD j 0))) (hb : Below w.heap.size w W)
    {ao : Option Addr} (hao : ¬ cap = k → ao = some ⟨g, k, none⟩) : ∀ ad, ao = some ad → ∀ j u, ((xs.drop k).map (Value.int .i64))[j]? = some u → W.cell? (ad.add j) = some u := by
  intro ad had j u hu
  rw [List.getElem?_map, List.getElem?_drop] at hu
  rcases Nat.lt_or_ge (k + j) xs.length with hj | hj
  · rw [List.getElem?_eq_getElem hj] at hu
    rw [hao (by omega)] at had
    obtain rfl := Option.some.inj had
    rw [Addr.add_lit, hb.cell (p := ⟨g, k + j, none⟩) hg, h (k + j) (by omega)]
    rw [← hu]
    simp [hj]
  · rw [List.getElem?_eq_none hj] at hu; cases hu
theorem put_ins {xs : List Int} {n k : Nat} {x : Int} (hu : Up xs) (hl : xs.length = n) (hk : k ≤ n) (hK : ∀ j, k ≤ j → j < n → x < xs.getD j 0) (h : k = 0 ∨ xs.getD (k - 1) 0 < x) : ins x xs = xs.take k ++ x :: xs.drop k := by
  have e : xs = xs.take k ++ xs.drop k := (List.take_append_drop k xs).symm
  have hp := List.pairwise_iff_getElem.1 hu
  have := ins_split x (l := xs.take k) (r := xs.drop k) (by rw [← e]; exact hu) (fun z hz => ?_) (fun z hz => ?_)
  · rw [← e] at this; exact this
  · obtain ⟨j, hj, rfl⟩ := List.getElem_of_mem hz
    simp only [List.length_drop] at hj
    have := hK (k + j) (by omega) (by omega)
    rw [getD_get (by omega)] at this
    simpa using this
  · obtain ⟨j, hj, rfl⟩ := List.getElem_of_mem hz
    simp only [List.length_take] at hj
    rcases h with h | h
    · omega
    · rw [getD_get (by omega)] at h
      rw [List.getElem_take]
      rcases Nat.lt_or_ge j (k - 1) with hj' | hj'
      · have := hp j (k - 1) (by omega) (by omega) hj'; omega
      · have ej : j = k - 1 := by omega
        subst ej; exact h
theorem put_end {w : World} {A B k m : Nat} {v : Value} {xs : List Int} {x : Int} (h : w.ownsRow A 2 1 v m ([] ++ (xs.take k).map (Value.int .i64) ++ [.int .i64 x] ++ (xs.drop k).map (Value.int .i64))) (hm : m = xs.length + 1) (hB : B ≤ A) : IS w B v (xs.take k ++ x :: xs.drop k) := by
  refine IS.low ?_ hB
  unfold IS
  have e : (xs.take k ++ x :: xs.drop k).length = m := by simp; omega
  rw [e]
  simpa using h
theorem one_ints (xs : List Int) : ∀ u ∈ xs.map (Value.int .i64), u.oneCell' = true := by
  intro u hu; obtain ⟨z, _, rfl⟩ := List.mem_map.1 hu; rfl

set_option maxRecDepth 10000 in
set_option maxHeartbeats 1600000 in
theorem spec_put_some (g cap n B : Nat) (xs : List Int) (x : Int) (w : World) (hl : Hid (xs.length = n)) (hn : n ≤ 4000000) (hc : n ≤ cap) (hm : cap ≤ maxLen) (hB : B ≤ g) (hg : g < w.heap.size) (hu : Hid (Up xs)) (h : ∀ j, j < n → w.cell? ⟨g, j, none⟩ = some (.int .i64 (xs.getD j 0))) (HIS : Hid (IS w B (.slice (some ⟨g, 0, none⟩) n cap) xs)) :
    Calls Try.prog 90 #[.slice (some ⟨g, 0, none⟩) n cap, .int .i64 x] w fun e w' => ∃ v', e = .returned v' ∧ IS w' B v' (ins x xs) ∧ v' ≠ .slice none 0 0 ∧ Below w.heap.size w w' := by
  have H : Hid _ := h
  clear h
  unfold maxLen at hm
  obtain ⟨i0, hi, hz0, hz1, hz2⟩ := info_parts info_i64
  go_enter Try.func90, Try.ntmps90
  go_wp2
  go_loop [5] (fun i => ∃ k : Nat, k ≤ n ∧ i = .int .i64 k ∧ Hid (∀ j, k ≤ j → j < n → x < xs.getD j 0)) (fun i => (intOf i).toNat)
  case atStart => exact ⟨n, Nat.le_refl _, rfl, fun j h1 h2 => by omega⟩
  case round =>
    obtain ⟨k, hk, rfl, hK⟩ := hrel
    have c1 : Hid (∀ W, Below w.heap.size w W → ∀ j u, ((xs.take k).map (Value.int .i64))[j]? = some u → W.cell? ((⟨g, 0, none⟩ : Addr).add j) = some u) := fun W hb => put_take hl.out hg H.out hb
    have l1 : Hid (((xs.take k).map (Value.int .i64)).length = k * 1) := by unfold Hid; simp [hl.out]; omega
    have l3 : Hid (((xs.drop k).map (Value.int .i64)).length = (n - k) * 1) := by unfold Hid; simp [hl.out]
    by_cases hpos : (0 : Int) < (k : Int)
    · have hc1 := H.out (k - 1) (by omega)
      obtain ⟨z, hz⟩ : ∃ z, z = xs.getD (k - 1) 0 := ⟨_, rfl⟩
      rw [← hz] at hc1
      have HZ : Hid (z = xs.getD (k - 1) 0) := hz
      have b0 : (0 : Int) ≤ (k : Int) - 1 := by omega
      have b1 : (k : Int) - 1 < (n : Int) := by omega
      have b2 : ((k : Int) - 1).toNat = k - 1 := by omega
      clear hz
      rcases Int.lt_trichotomy z x with hzx | hzx | hzx
      · have d1 : decide (x < z) = false := by simp; omega
        have d2 : (z == x) = false := by simp; omega
        go_wp2_with (first
          | (at_builtin; refine append_own_any rfl (.tmp 34) (.tmp 37) 61 rfl w.heap.size 2 i0 (.int .i64 0) 1 8 Try.underlying61 hi hz0 hz1 hz2 rfl (by decide) (.slice (some ⟨w.heap.size, 0, none⟩) 0 0) 0 [] rfl (IS.lit0 w _ (Nat.le_refl _)) _ k cap _ rfl l1.out (by intro h; cases h) (fun ad had => by cases had; exact c1.out _ (by (repeat' (first | (with_reducible exact Below.refl _ _) | (with_reducible assumption) | (with_reducible refine Below.setCell ?_ ?_ _) | (with_reducible refine Below.alloc ?_ ?_ _) | (with_reducible refine below_drewN ?_ _) | (with_reducible refine Below.drew ?_) | (with_reducible exact Nat.le_refl _) | omega | (simp; done) | (simp; omega))))) (one_ints _) (by unfold maxLen; omega) (by omega) (by simp) ?_; intro v1 w1 hown1 hgrow1 hv1; have hb1 : Hid (Below w.heap.size w w1) := ((Below.refl _ _).alloc (Nat.le_refl _) _).grown hgrow1 (by simp) (fun j hj => by cases hj; exact Nat.le_refl _))
          | (at_builtin; refine append_own_any rfl (.tmp 39) (.tmp 41) 61 rfl w.heap.size 2 i0 (.int .i64 0) 1 8 Try.underlying61 hi hz0 hz1 hz2 rfl (by decide) v1 _ _ rfl (World.ownsRow.alloc hown1 _) (some ⟨w1.heap.size, 0, none⟩) 1 1 [.int .i64 x] rfl rfl (by intro h; cases h) (fun ad had => by cases had; exact World.news_of_block (cs := #[.int .i64 x]) (t := 2) (fr := (0, 0)) (heap_alloc_new w1 _)) (by simp [Value.oneCell']) (by unfold maxLen; omega) (by omega) (by have := hb1.out.size; simp; omega) ?_; intro v2 w2 hown2 hgrow2 hv2; have hb2 : Hid (Below w.heap.size w w2) := (hb1.out.alloc hb1.out.size _).grown hgrow2 (by have := hb1.out.size; simp; omega) (fun j hj => (World.ownsRow.lt hown1 j hj).1))
          | (at_builtin; refine append_own_any rfl (.tmp 43) (.tmp 46) 61 rfl w.heap.size 2 i0 (.int .i64 0) 1 8 Try.underlying61 hi hz0 hz1 hz2 rfl (by decide) v2 _ _ rfl hown2 _ (n - k) (cap - k) _ rfl l3.out (by intro h; first | (cases h; done) | (split at h <;> cases h)) (put_drop hl.out hc hk hg H.out hb2.out (by intro h; first | rfl | simp [h])) (one_ints _) (by unfold maxLen; omega) (by omega) hb2.out.size ?_; intro v3 w3 hown3 hgrow3 hv3; have hb3 : Hid (Below w.heap.size w w3) := hb2.out.grown hgrow3 hb2.out.size (fun j hj => (World.ownsRow.lt hown2 j hj).1)))
        all_goals
          go_returns
          refine ⟨_, rfl, ?_, hv3 (hv2 (hv1 (by simp))), hb3.out⟩
          rw [put_ins hu.out hl.out hk hK.out (Or.inr (by rw [← HZ.out]; exact hzx))]
          exact put_end hown3 (by rw [hl.out]; omega) (by omega)
      · subst hzx
        have d1 : decide (z < z) = false := by simp
        go_wp2
        go_returns
        have HZ' := HZ.out
        refine ⟨_, rfl, ?_, by simp, Below.refl _ _⟩
        rw [ins_there _ hu.out (by rw [HZ']; rw [getD_get (by rw [hl.out]; omega)]; exact List.getElem_mem _)]
        exact HIS.out
      · go_wp2
        go_round
        case rel => exact ⟨k - 1, by omega, by go_num, fun j h1 h2 => by
          rcases Nat.lt_or_ge j k with hj | hj
          · obtain rfl : j = k - 1 := by omega
            rw [← HZ.out]; exact hzx
          · exact hK.out j hj h2⟩
        case measure => simp [intOf]; omega
    · go_wp2_with (first
        | (at_builtin; refine append_own_any rfl (.tmp 34) (.tmp 37) 61 rfl w.heap.size 2 i0 (.int .i64 0) 1 8 Try.underlying61 hi hz0 hz1 hz2 rfl (by decide) (.slice (some ⟨w.heap.size, 0, none⟩) 0 0) 0 [] rfl (IS.lit0 w _ (Nat.le_refl _)) _ k cap _ rfl l1.out (by intro h; cases h) (fun ad had => by cases had; exact c1.out _ (by (repeat' (first | (with_reducible exact Below.refl _ _) | (with_reducible assumption) | (with_reducible refine Below.setCell ?_ ?_ _) | (with_reducible refine Below.alloc ?_ ?_ _) | (with_reducible refine below_drewN ?_ _) | (with_reducible refine Below.drew ?_) | (with_reducible exact Nat.le_refl _) | omega | (simp; done) | (simp; omega))))) (one_ints _) (by unfold maxLen; omega) (by omega) (by simp) ?_; intro v1 w1 hown1 hgrow1 hv1; have hb1 : Hid (Below w.heap.size w w1) := ((Below.refl _ _).alloc (Nat.le_refl _) _).grown hgrow1 (by simp) (fun j hj => by cases hj; exact Nat.le_refl _))
        | (at_builtin; refine append_own_any rfl (.tmp 39) (.tmp 41) 61 rfl w.heap.size 2 i0 (.int .i64 0) 1 8 Try.underlying61 hi hz0 hz1 hz2 rfl (by decide) v1 _ _ rfl (World.ownsRow.alloc hown1 _) (some ⟨w1.heap.size, 0, none⟩) 1 1 [.int .i64 x] rfl rfl (by intro h; cases h) (fun ad had => by cases had; exact World.news_of_block (cs := #[.int .i64 x]) (t := 2) (fr := (0, 0)) (heap_alloc_new w1 _)) (by simp [Value.oneCell']) (by unfold maxLen; omega) (by omega) (by have := hb1.out.size; simp; omega) ?_; intro v2 w2 hown2 hgrow2 hv2; have hb2 : Hid (Below w.heap.size w w2) := (hb1.out.alloc hb1.out.size _).grown hgrow2 (by have := hb1.out.size; simp; omega) (fun j hj => (World.ownsRow.lt hown1 j hj).1))
        | (at_builtin; refine append_own_any rfl (.tmp 43) (.tmp 46) 61 rfl w.heap.size 2 i0 (.int .i64 0) 1 8 Try.underlying61 hi hz0 hz1 hz2 rfl (by decide) v2 _ _ rfl hown2 _ (n - k) (cap - k) _ rfl l3.out (by intro h; first | (cases h; done) | (split at h <;> cases h)) (put_drop hl.out hc hk hg H.out hb2.out (by intro h; first | rfl | simp [h])) (one_ints _) (by unfold maxLen; omega) (by omega) hb2.out.size ?_; intro v3 w3 hown3 hgrow3 hv3; have hb3 : Hid (Below w.heap.size w w3) := hb2.out.grown hgrow3 hb2.out.size (fun j hj => (World.ownsRow.lt hown2 j hj).1)))
      all_goals
        go_returns
        refine ⟨_, rfl, ?_, hv3 (hv2 (hv1 (by simp))), hb3.out⟩
        rw [put_ins hu.out hl.out hk hK.out (Or.inl (by omega))]
        exact put_end hown3 (by rw [hl.out]; omega) (by omega)

theorem spec_put {w : World} {B : Nat} {v : Value} {xs : List Int} (x : Int) (hn : xs.length ≤ 4000000) (hu : Up xs) (h : IS w B v xs) (hv : v ≠ .slice none 0 0) :
    Calls Try.prog 90 #[v, .int .i64 x] w fun e w' => ∃ v', e = .returned v' ∧ IS w' B v' (ins x xs) ∧ v' ≠ .slice none 0 0 ∧ Below w.heap.size w w' := by
  rcases h.cases with ⟨rfl, _⟩ | ⟨g, cap, rfl, hc, hm, hB, hg, hj⟩
  · exact absurd rfl hv
  · exact spec_put_some g cap _ B xs x w rfl hn hc hm hB hg hu hj h

end Go.Proofs.Ytpfnhiohbgconaa
