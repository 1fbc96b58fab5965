/- Proved here: the program's trying of one end. -/
import Derived.Test.YtfjcebgknpccbabClC
import Derived.Test.YtfjcebgknpccbabReg
import Derived.Deep.AppendLies
namespace Go.Proofs.Ytfjcebgknpccbab
open Go.RowKit
set_option linter.unusedVariables false
set_option linter.unusedSimpArgs false

theorem rise_ends {len : Int} : ∀ (ls : List Ln) (a : Int), -1 ≤ a → Rise len a ls → ∀ x ∈ flL ls, 0 ≤ x ∧ x ≤ len
  | [], _, _, _, _, hx => by simp [flL] at hx
  | y :: t, a, ha, h, x, hx => by
    have hc : flL (y :: t) = y.f :: y.t :: flL t := by simp [flL]
    rw [hc] at hx
    obtain ⟨h1, h2, h3, h4, h5⟩ := h
    rcases List.mem_cons.1 hx with rfl | hx
    · exact ⟨h2, by omega⟩
    rcases List.mem_cons.1 hx with rfl | hx
    · exact ⟨by omega, h4⟩
    · exact rise_ends t y.t (by omega) h5 x hx
theorem setRow_below {lo g : Nat} {V : World} (hg : lo ≤ g) (cs : Array Value) : Below lo V (V.setRow g cs) := below_setRow (Below.refl _ _) hg cs

/-- The tried ends are laid over by the best. -/
theorem BD.copyT {lo kb gb cb gt ct n p : Nat} {ev : Value} {X T es : List Int} {V : World} (h : BD lo kb gb cb gt ct n p ev X T es V) :
    ∃ cur : Array Value, V.heap[gt]? = some (.cells cur 2 (0, 0)) ∧ n ≤ cur.size ∧ BD lo kb gb cb gt ct n p ev X X es (V.setRow gt (cur.toList.take 0 ++ (X.map (Value.int .i64) ++ cur.toList.drop (0 + (X.map (Value.int .i64)).length))).toArray) := by
  obtain ⟨cur, h1, h2, h3⟩ := h.tr.over (ys := X) h.len.1.symm
  refine ⟨cur, h1, h2, ⟨?_, ?_, h3, ?_, h.d1, h.d2⟩⟩
  · rw [setRow_other _ _ _ _ h.d1.2.2.1]; exact h.kb_
  · exact h.be.kept fun g hg => setRow_other _ _ _ _ (by injection hg with hg; have hg' : gb = g := hg; have := h.d1.1; omega)
  · exact h.er.kept fun g hg => setRow_other _ _ _ _ (by have := (h.d2 g hg).2.1; omega)
theorem BD.copyB {lo kb gb cb gt ct n p : Nat} {ev : Value} {X T es : List Int} {V : World} (h : BD lo kb gb cb gt ct n p ev X T es V) :
    ∃ cur : Array Value, V.heap[gb]? = some (.cells cur 2 (0, 0)) ∧ n ≤ cur.size ∧ BD lo kb gb cb gt ct n p ev T T es (V.setRow gb (cur.toList.take 0 ++ (T.map (Value.int .i64) ++ cur.toList.drop (0 + (T.map (Value.int .i64)).length))).toArray) := by
  obtain ⟨cur, h1, h2, h3⟩ := h.be.over (ys := T) h.len.2.symm
  refine ⟨cur, h1, h2, ⟨?_, h3, ?_, ?_, h.d1, h.d2⟩⟩
  · rw [setRow_other _ _ _ _ h.d1.2.1]; exact h.kb_
  · exact h.tr.kept fun g hg => setRow_other _ _ _ _ (by injection hg with hg; have hg' : gt = g := hg; have := h.d1.1; omega)
  · exact h.er.kept fun g hg => setRow_other _ _ _ _ (by have := (h.d2 g hg).1; omega)
theorem BD.setT {lo kb gb cb gt ct n p : Nat} {ev : Value} {X T es : List Int} {V : World} (h : BD lo kb gb cb gt ct n p ev X T es V) (k : Nat) (y : Int) : BD lo kb gb cb gt ct n p ev X (T.set k y) es (V.setCell ⟨gt, k, none⟩ (.int .i64 y)) := by
  refine ⟨?_, ?_, h.tr.setL k y, ?_, h.d1, h.d2⟩
  · rw [heap_setCell_other _ _ _ _ (by have := h.d1; simp; omega)]; exact h.kb_
  · exact h.be.kept fun g hg => heap_setCell_other _ _ _ _ (by injection hg with hg; have hg' : gb = g := hg; have := h.d1.1; simp; omega)
  · exact h.er.kept fun g hg => heap_setCell_other _ _ _ _ (by have := (h.d2 g hg).2.1; simp; omega)
theorem BD.glo {lo kb gb cb gt ct n p : Nat} {ev : Value} {X T es : List Int} {V : World} (h : BD lo kb gb cb gt ct n p ev X T es V) : lo ≤ gb ∧ lo ≤ gt ∧ lo ≤ kb := ⟨(IS.lt h.be gb rfl).1, (IS.lt h.tr gt rfl).1, h.d1.2.2.2⟩
theorem nums_at {w : World} {B g n c : Nat} {xs : List Int} (h : IS w B (.slice (some ⟨g, 0, none⟩) n c) xs) : ∀ (j : Nat) (u : Value), (xs.map (Value.int .i64))[j]? = some u → w.cell? ((⟨g, 0, none⟩ : Addr).add j) = some u := by
  intro j u hu
  have hn : n = xs.length := by obtain ⟨_, _, e⟩ := h.form; injection e
  subst hn
  have hj : j < xs.length := by
    rcases Nat.lt_or_ge j xs.length with h' | h'
    · exact h'
    · rw [List.getElem?_eq_none (by simpa using h')] at hu; cases hu
  have := World.ownsRow.cellAt h j (by omega)
  rw [hu] at this
  have e : (⟨g, 0, none⟩ : Addr).add j = ⟨g, j, none⟩ := by
    unfold Addr.add
    split
    · rename_i h0; rw [h0]
    · simp
  rw [e]
  exact this
theorem nums_one (xs : List Int) : ∀ u ∈ xs.map (Value.int .i64), u.oneCell' = true := by
  intro u hu
  obtain ⟨x, _, rfl⟩ := List.mem_map.1 hu
  rfl
theorem op_appC {P : Program} {ops : Array Oper} {Q : Exit → Act → World → Prop} {j dd : Nat} {w : World} {o : Oper} {a : Act} {K : Act → World → Prop} (hj : ops[j]? = some o) (hd : o.dst = some dd) (hgd : o.guard = none) (s x : Operand) (t : TypeId)
    (ho : o.op = .call { callee := .builtin .append, args := #[s, x], argTypes := #[t, t] })
    (base : Nat) (e : TypeId) (i : TypeInfo) (z : Value) (size bytes : Nat) (ht : P.underlying t = some (.slice e)) (hi : P.info? e = some i) (hz : i.zero = some z)
    (hsize : i.size = size) (hby : i.bytes = bytes) (hzs : z.cells.size = size) (hsz : 0 < size)
    (v : Value) (n : Nat) (xs : List Value) (hs : a.eval s = v) (hown : w.ownsRow base e size v n xs)
    (ad : Addr) (m c : Nat) (news : List Value) (hx : a.eval x = .slice (some ad) m c) (hl : news.length = m * size) (hnews : ∀ j u, news[j]? = some u → w.cell? (ad.add j) = some u) (h1 : ∀ u ∈ news, u.oneCell' = true)
    (hm : 0 < m) (h63 : n + m ≤ maxLen) (hbytes : (n + m) * bytes ≤ 140737488355328) (hbase : base ≤ w.heap.size)
    (h : ∀ g cap w', w'.ownsRow base e size (.slice (some ⟨g, 0, none⟩) (n + m) cap) (n + m) (xs ++ news) → w.grownBy w' v.ownBlock → (v.ownBlock = some g ∨ g = w.heap.size) → g < w'.heap.size → K (a.put (some dd) (.slice (some ⟨g, 0, none⟩) (n + m) cap)) w') : wpOp P ops Q j K a w := by
  unfold wpOp
  simp only [hj, wanted_none hgd, if_true]
  refine Or.inl (wp_append_lies w s x t ho base e i z size bytes ht hi hz hsize hby hzs hsz v n xs hs hown ad m c news hx hl hnews h1 hm h63 hbytes hbase w.heap.size rfl fun g cap w' h2 h3 h4 h5 => ?_)
  rw [hd]
  exact h g cap w' h2 h3 h4 h5

theorem info_one : (Try.prog.info? 2).map (·.size) = some 1 := by kernel_rfl

set_option maxRecDepth 10000 in
set_option maxHeartbeats 25600000 in
theorem impl_try {w : World} {lo kb gb cb gt ct n p : Nat} {ev : Value} {t : List Ln} {len : Int} {ws : List Int} {K : Int} {S : ClS} {T : List Int} {k : Nat} {d : Int} {vt u : Value} {m : Nat}
    (hB : BD lo kb gb cb gt ct n p ev (flL S.1) T S.2 w) (hok : OkS len n m S) (hm : m ≤ 2000) (hk : k < n) (hd : d = 1 ∨ d = -1) (hlo : lo ≤ w.heap.size) (hp : p + 3 ≤ lo)
    (hc : Cau w p vt len u K) (hlt : lnF t len = 0) (hkn : knF ws K = 0) (htl : ∀ V, Below lo w V → RG 2 lnC V vt t) (hul : ∀ V, Below lo w V → RdI V u ws) :
    Calls Try.prog 49 #[.pointer (some ⟨kb, 0, none⟩), .int .i64 k, .int .i64 d] w fun e w' => e = .returned (.bool (tryS t len ws K k d S).1) ∧ (∃ gb' cb' gt' ct' ev' T', BD lo kb gb' cb' gt' ct' n p ev' (flL (tryS t len ws K k d S).2.1) T' (tryS t len ws K k d S).2.2 w') ∧ Below lo w w' := by
  have hgood := lnF_good hok.lf
  obtain ⟨Y, hY⟩ : ∃ Y, Y = (flL S.1).getD k 0 := ⟨_, rfl⟩
  have hYb : 0 ≤ Y ∧ Y ≤ 60 := by
    have h1 : k < (flL S.1).length := by rw [← hB.len.1]; exact hk
    have h2 : Y ∈ flL S.1 := by rw [hY, List.getD_eq_getElem?_getD, List.getElem?_eq_getElem h1]; exact List.getElem_mem h1
    have := rise_ends S.1 (-1) (by omega) hgood.2.2.2 Y h2
    omega
  obtain ⟨X, hX⟩ : ∃ X, X = flL S.1 := ⟨_, rfl⟩
  obtain ⟨L', hL'⟩ : ∃ L', L' = turnE S.1 k d := ⟨_, rfl⟩
  obtain ⟨X', hX'⟩ : ∃ X', X' = X.set k (Y + d) := ⟨_, rfl⟩
  have hfl : flL L' = X' := by rw [hL', hX', hX, hY]; exact flL_turn d (by rw [hok.ll]; exact hk)
  obtain ⟨C', hC'⟩ : ∃ C, C = peC t L' len ws K := ⟨_, rfl⟩
  obtain ⟨E', hE'⟩ : ∃ C, C = peV t L' len ws K := ⟨_, rfl⟩
  have hCl : C' = lnF L' len := by
    rw [hC', peC, if_pos hlt, lpF]
    split
    · rename_i h1; rw [hkn, h1]
    · rfl
  obtain ⟨TR, hTR⟩ : ∃ TR, TR = tryS t len ws K k d S := ⟨_, rfl⟩
  have hTRv : TR = if C' = 0 ∧ E' < lastE S.2 then (true, (L', S.2 ++ [E'])) else (false, S) := by
    rw [hTR, tryS, ← hL', ← hCl]
    by_cases h0 : C' = 0
    · have e : E' = (erN t L' ws K len.toNat : Int) := by rw [hE', peV, ← hC', if_pos h0]
      rw [e]
    · rw [if_neg (fun h => h0 h.1), if_neg (fun h => h0 h.1)]
  rw [← hTR]
  rw [← hX] at hB
  obtain ⟨es, hes⟩ : ∃ es, es = S.2 := ⟨_, rfl⟩
  rw [← hes] at hB hTRv
  have hen : 0 < es.length ∧ es.length ≤ 2000 := by rw [hes]; exact ⟨hok.e0, Nat.le_trans hok.em hm⟩
  obtain ⟨ge, ec, hev⟩ : ∃ ge ec, ev = .slice (some ⟨ge, 0, none⟩) es.length ec := by
    rcases hB.er.2 with ⟨_, h0⟩ | ⟨g, cap, cur, h1, _⟩
    · omega
    · exact ⟨g, cap, h1⟩
  obtain ⟨en, hen'⟩ : ∃ en, en = es.length := ⟨_, rfl⟩
  rw [← hen'] at hev hen
  subst hev
  obtain ⟨EL, hEL⟩ : ∃ EL, EL = lastE es := ⟨_, rfl⟩
  have hLl : L'.length ≤ 12 := by rw [hL', turnE_len]; exact hgood.2.2.1
  have hn24 : n ≤ 24 := by have := hok.ll; have := hgood.2.2.1; omega
  have H : Hid (BD lo kb gb cb gt ct n p (.slice (some ⟨ge, 0, none⟩) en ec) X T es w ∧ TR = (if C' = 0 ∧ E' < EL then (true, (L', es ++ [E'])) else (false, S)) ∧ X = flL S.1 ∧ es = S.2 ∧ en = es.length ∧ flL L' = X' ∧ X' = X.set k (Y + d) ∧ Y = X.getD k 0 ∧ EL = lastE es ∧ L'.length ≤ 12) := ⟨hB, by rw [hEL]; exact hTRv, hX, hes, hen', hfl, hX', by rw [hX]; exact hY, hEL, hLl⟩
  have HCL : Hid (∀ V r, Below lo w V → RG 2 lnC V r L' → Calls Try.prog 30 #[r, .pointer (some ⟨p, 0, none⟩), .pointer (some ⟨p + 1, 0, none⟩), .pointer (some ⟨p + 1 + 1, 0, none⟩)] V fun e w' => e = .returned (.agg #[.int .i64 C', .int .i64 E']) ∧ Below V.heap.size V w') := fun V r hV hr => by
    rw [hC', hE']
    exact impl_cl K len (hc.below hV hp) (by have := (lnF_good hlt).2.2.1; omega) (by omega) (htl V hV) hr (hul V hV)
  have hdb : -1 ≤ d ∧ d ≤ 1 := by omega
  have hszlo : lo ≤ w.heap.size := hlo
  clear hB hok hm hd hlo hc hlt hkn htl hul hgood hY hX hL' hX' hfl hC' hE' hCl hTR hTRv hes hen' hEL hLl
  obtain ⟨cur, hcur, hcn, hcp⟩ := (H.out.1.next ((Below.refl _ _).drew)).copyT
  obtain ⟨V1, hV1⟩ : ∃ V1, V1 = w.drew.setRow gt (cur.toList.take 0 ++ (X.map (Value.int .i64) ++ cur.toList.drop (0 + (X.map (Value.int .i64)).length))).toArray := ⟨_, rfl⟩
  rw [← hV1] at hcp
  have HV1 : Hid (BD lo kb gb cb gt ct n p (.slice (some ⟨ge, 0, none⟩) en ec) X X es V1 ∧ Below lo w V1) := ⟨hcp, by rw [hV1]; exact (show Below lo w w.drew from (Below.refl _ _).drew).trans (setRow_below H.out.1.glo.2.1 _)⟩
  have HVE : Hid (V1 = w.drew.setRow gt (cur.toList.take 0 ++ (X.map (Value.int .i64) ++ cur.toList.drop (0 + (X.map (Value.int .i64)).length))).toArray) := hV1
  have HCU : Hid (w.drew.heap[gt]? = some (.cells cur 2 (0, 0)) ∧ n ≤ cur.size) := ⟨hcur, hcn⟩
  clear hcur hcn hcp hV1
  obtain ⟨a0, a1, a2, a3, af, al⟩ := four_at H.out.1.kb_
  have afx := af 0
  clear af
  have bk0 : (0 : Int) ≤ (k : Int) := by omega
  have bk1 : (k : Int) < (n : Int) := by omega
  have e1 : IntKind.i64.wrap (Y + d) = Y + d := by rw [IntKind.wrap_i64]; omega
  go_enter Try.func49, Try.ntmps49
  go_wp2_with (fail)
  refine wp_region_still_tail 8 (by kernel_rfl) (by kernel_rfl) ?_
  have hdw : ({ w with drawn := w.drawn + 1 } : World) = w.drew := rfl
  rw [hdw]
  clear hdw
  simp only [List.take_succ_cons, List.take_zero, List.drop_succ_cons, List.drop_zero]
  iterate 8 still_step
  refine wpStill_nil ?_
  refine wpList_copy_own rfl (.tmp 11) (.tmp 15) 23 23 rfl 2 Try.underlying23 info_one gt 0 n ct ⟨gb, 0, none⟩ n cb rfl rfl cur 2 HCU.out.1 (X.map (Value.int .i64)) (by have := H.out.1.len.1; simp; omega) (nums_at ((H.out.1.next ((Below.refl _ _).drew)).be)) (by have := HCU.out.2; have := H.out.1.len.1; simp; omega) (nums_one X) ?_
  rw [← HVE.out]
  obtain ⟨b0, b1, b2, b3, bf, bl⟩ := four_at HV1.out.1.kb_
  obtain ⟨y0, yf⟩ := HV1.out.1.tr.atL hk
  rw [← H.out.2.2.2.2.2.2.2.1] at y0
  clear bf a0 a1 a2 a3 afx al
  go_wp2
  obtain ⟨V2, hV2⟩ : ∃ V, V = V1.setCell ⟨gt, k, none⟩ (.int .i64 (Y + d)) := ⟨_, rfl⟩
  have HV2 : Hid (BD lo kb gb cb gt ct n p (.slice (some ⟨ge, 0, none⟩) en ec) X X' es V2 ∧ Below lo w V2) := by
    have h1 := HV1.out.1.setT k (Y + d)
    rw [← H.out.2.2.2.2.2.2.1, ← hV2] at h1
    exact ⟨h1, by rw [hV2]; exact HV1.out.2.setCell HV1.out.1.glo.2.1 _⟩
  rw [← hV2]
  clear hV2 HVE HCU b0 b1 b2 b3 bl y0 yf HV1
  obtain ⟨b0, b1, b2, b3, bf, bl⟩ := four_at HV2.out.1.kb_
  unfold fnV at b3
  clear bf
  refine wp_region_float (by kernel_rfl) (fun hS => ?_)
  refine fl_take (i := 0) (d := 27) (v := .pointer (some ⟨kb, 0, none⟩)) rfl rfl rfl (by kernel_rfl) (by kernel_rfl) (by kernel_rfl) hS ?_ ?_
  · intro w' hk; go_simp
  simp only [Act.put, List.setIfInBounds_toArray, List.set_cons_zero, List.set_cons_succ]
  refine fl_take (i := 1) (d := 28) (v := .pointer (some ⟨kb, 0, none⟩)) rfl rfl rfl (by kernel_rfl) (by kernel_rfl) (by kernel_rfl) hS ?_ ?_
  · intro w' hk; go_simp
  simp only [Act.put, List.setIfInBounds_toArray, List.set_cons_zero, List.set_cons_succ]
  refine fl_take (i := 2) (d := 29) (v := .pointer (some ⟨kb, 3, none⟩)) rfl rfl rfl (by kernel_rfl) (by kernel_rfl) (by kernel_rfl) hS ?_ ?_
  · intro w' hk; go_simp
  simp only [Act.put, List.setIfInBounds_toArray, List.set_cons_zero, List.set_cons_succ]
  refine fl_take (i := 3) (d := 30) (v := .func (Fn.func 30) #[] #[.pointer (some ⟨p, 0, none⟩), .pointer (some ⟨p + 1, 0, none⟩), .pointer (some ⟨p + 1 + 1, 0, none⟩)]) rfl rfl rfl (by kernel_rfl) (by kernel_rfl) (by kernel_rfl) hS ?_ ?_
  · intro w' hk; go_simp
  simp only [Act.put, List.setIfInBounds_toArray, List.set_cons_zero, List.set_cons_succ]
  refine fl_take (i := 4) (d := 31) (v := .pointer (some ⟨kb, 0, none⟩)) rfl rfl rfl (by kernel_rfl) (by kernel_rfl) (by kernel_rfl) hS ?_ ?_
  · intro w' hk; go_simp
  simp only [Act.put, List.setIfInBounds_toArray, List.set_cons_zero, List.set_cons_succ]
  refine fl_take (i := 5) (d := 32) (v := .pointer (some ⟨kb, 0, none⟩)) rfl rfl rfl (by kernel_rfl) (by kernel_rfl) (by kernel_rfl) hS ?_ ?_
  · intro w' hk; go_simp
  simp only [Act.put, List.setIfInBounds_toArray, List.set_cons_zero, List.set_cons_succ]
  refine fl_take (i := 6) (d := 33) (v := .pointer (some ⟨kb, 1, none⟩)) rfl rfl rfl (by kernel_rfl) (by kernel_rfl) (by kernel_rfl) hS ?_ ?_
  · intro w' hk; go_simp
  simp only [Act.put, List.setIfInBounds_toArray, List.set_cons_zero, List.set_cons_succ]
  refine fl_take (i := 7) (d := 34) (v := .slice (some ⟨gt, 0, none⟩) n ct) rfl rfl rfl (by kernel_rfl) (by kernel_rfl) (by kernel_rfl) hS ?_ ?_
  · intro w' hk; go_simp
  simp only [Act.put, List.setIfInBounds_toArray, List.set_cons_zero, List.set_cons_succ]
  refine float_pend (z := #[.int .i64 0, .int .i64 0]) (T := 50) (ja := 10) (js := 11) rfl rfl rfl rfl rfl (fun a w => by go_simp) [8, 9] _ _ _ (fun _ => False) (by kernel_rfl) (by kernel_rfl) ?_ (Nat.le_refl _) (fun _ h => h.elim) hS
  intro y1 hW1
  have hB1 : Below V2.heap.size V2 y1 := hS.2.trans (hW1.mono hS.2.size)
  refine ⟨_, 35, _, _, rfl, rfl, by go_simp, (impl_lb (v := .slice (some ⟨gt, 0, none⟩) n ct) (ls := L') (by have := H.out.2.2.2.2.2.2.2.2.2; omega) (by rw [H.out.2.2.2.2.2.1]; exact (HV2.out.1.next hB1).tr.rg)).mono ?_⟩
  rintro e y2 ⟨r2, rfl, ho2, hb2⟩
  have hB2 : Below V2.heap.size V2 y2 := hB1.trans (hb2.mono hB1.size)
  obtain ⟨ra, rc, hrf⟩ := (OG.rg lnC_len ho2).form
  subst hrf
  refine ⟨_, rfl, hb2, ?_⟩
  simp only [Act.put, List.setIfInBounds_toArray, List.set_cons_zero, List.set_cons_succ]
  intro y3 hW3
  have hB3 : Below V2.heap.size V2 y3 := hB2.trans (hW3.mono hB2.size)
  have hsl : lo ≤ V2.heap.size := Nat.le_trans hszlo HV2.out.2.size
  refine ⟨_, 36, _, _, rfl, rfl, by go_simp, (HCL.out y3 _ (HV2.out.2.trans (hB3.mono hsl)) ((OG.rg lnC_len ho2).below hW3)).mono ?_⟩
  rintro e y4 ⟨rfl, hb4⟩
  refine ⟨_, rfl, hb4, ?_⟩
  simp only [Act.put, List.setIfInBounds_toArray, List.set_cons_zero, List.set_cons_succ]
  unfold Fl
  refine after_store ?_ _ _ _ #[.int .i64 C', .int .i64 E'] (by rfl) (by rfl) (fun _ => by rfl) (fun _ => by rfl) (by simp) (by kernel_rfl) (by simp [Value.oneCell']) ?_
  · exact Nat.le_refl _
  intro K5 V5 hK hk1 hk2 hF hoth hsz hcell
  simp only [Act.put, List.setIfInBounds_toArray, List.set_cons_zero, List.set_cons_succ]
  refine NoPanic.normal ?_
  have HV5 : Hid (BD lo kb gb cb gt ct n p (.slice (some ⟨ge, 0, none⟩) en ec) X X' es V5 ∧ Below lo w V5 ∧ V5.cell? ⟨K5, 0, none⟩ = some (.int .i64 C') ∧ V5.cell? ⟨K5, 1, none⟩ = some (.int .i64 E') ∧ V2.heap.size ≤ K5 ∧ K5 < V5.heap.size) := ⟨HV2.out.1.next hK.2, HV2.out.2.trans (hK.2.mono hsl), hcell 0 _ rfl, hcell 1 _ rfl, hk1, hk2⟩
  have hkbl : kb < V2.heap.size := bl
  have hgel : ge < V2.heap.size := (IS.lt HV2.out.1.er ge rfl).2
  have hgbl : gb < V2.heap.size := (IS.lt HV2.out.1.be gb rfl).2
  have hgtl : gt < V2.heap.size := (IS.lt HV2.out.1.tr gt rfl).2
  clear hK hk1 hk2 hF hoth hsz hcell hb4 hB3 hW3 hb2 hB2 ho2 hB1 hW1 hS b0 b1 b2 b3 bl HV2
  obtain ⟨b0, b1, b2, b3, bf, bl⟩ := four_at HV5.out.1.kb_
  have f0 := HV5.out.2.2.1
  have f1 := HV5.out.2.2.2.1
  have fl := HV5.out.2.2.2.2.2
  obtain ⟨en', hen1⟩ : ∃ e, en = e + 1 := ⟨en - 1, by omega⟩
  obtain ⟨x0, xf⟩ := HV5.out.1.er.atL (j := en') (by omega)
  have hxl : es.getD en' 0 = EL := by
    rw [H.out.2.2.2.2.2.2.2.2.1, lastE, ← H.out.2.2.2.2.1, hen1]; rfl
  rw [hxl] at x0
  subst hen1
  have e9 : (((en' + 1 : Nat) : Int) - 1) = (en' : Int) := by omega
  have hw9 : IntKind.i64.wrap (en' : Int) = (en' : Int) := by rw [IntKind.wrap_i64]; omega
  have hb9 : (0 : Int) ≤ (en' : Int) := by omega
  have hb8 : (en' : Int) < (en' : Int) + 1 := by omega
  clear bf xf hxl
  go_wp2
  by_cases hC0 : C' = 0
  case neg =>
    have HN : Hid (TR = (false, S)) := by unfold Hid; rw [H.out.2.1, if_neg (fun h => hC0 h.1)]
    have d1 : (C' != 0) = true := by simpa using hC0
    have d2 : (C' == 0) = false := by simpa using hC0
    go_quiet (fail)
    go_wp2
    go_returns
    refine ⟨by rw [HN.out]; rfl, ⟨gb, cb, gt, ct, .slice (some ⟨ge, 0, none⟩) (en' + 1) ec, X', ?_⟩, below_drewN HV5.out.2.1 _⟩
    rw [HN.out]
    show BD lo kb gb cb gt ct n p _ (flL S.1) X' S.2 _
    rw [← H.out.2.2.1, ← H.out.2.2.2.1]
    exact HV5.out.1.next (below_drewN (Below.refl _ _) _)
  subst hC0
  by_cases hEl : E' < EL
  case neg =>
    have HN : Hid (TR = (false, S)) := by unfold Hid; rw [H.out.2.1, if_neg (fun h => hEl h.2)]
    have d1 : EL ≤ E' := by omega
    go_quiet (fail)
    go_wp2
    go_returns
    refine ⟨by rw [HN.out]; rfl, ⟨gb, cb, gt, ct, .slice (some ⟨ge, 0, none⟩) (en' + 1) ec, X', ?_⟩, below_drewN HV5.out.2.1 _⟩
    rw [HN.out]
    show BD lo kb gb cb gt ct n p _ (flL S.1) X' S.2 _
    rw [← H.out.2.2.1, ← H.out.2.2.2.1]
    exact HV5.out.1.next (below_drewN (Below.refl _ _) _)
  have HN : Hid (TR = (true, (L', es ++ [E']))) := by unfold Hid; rw [H.out.2.1, if_pos ⟨rfl, hEl⟩]
  have d1 : decide (EL ≤ E') = false := by simp; omega
  go_quiet (fail)
  go_wp2
  obtain ⟨cq, hcq⟩ : ∃ c : Nat, c = cur.size := ⟨_, rfl⟩
  clear hcq cq
  obtain ⟨V6, hV6⟩ : ∃ V, V = V5.drewN nq := ⟨_, rfl⟩
  rw [← hV6]
  have HV6 : Hid (BD lo kb gb cb gt ct n p (.slice (some ⟨ge, 0, none⟩) (en' + 1) ec) X X' es V6 ∧ Below lo w V6 ∧ V6.cell? ⟨K5, 0, none⟩ = some (.int .i64 0) ∧ V6.cell? ⟨K5, 1, none⟩ = some (.int .i64 E') ∧ V2.heap.size ≤ K5 ∧ K5 < V6.heap.size) := by
    rw [hV6]
    exact ⟨HV5.out.1.next (below_drewN (Below.refl _ _) _), below_drewN HV5.out.2.1 _, f0, f1, HV5.out.2.2.2.2.1, fl⟩
  clear hV6 b0 b1 b2 b3 bl f0 f1 fl x0 HV5
  obtain ⟨cur2, hcur, hcn, hcp⟩ := (HV6.out.1.next ((Below.refl _ _).drew)).copyB
  obtain ⟨V7, hV7⟩ : ∃ V7, V7 = V6.drew.setRow gb (cur2.toList.take 0 ++ (X'.map (Value.int .i64) ++ cur2.toList.drop (0 + (X'.map (Value.int .i64)).length))).toArray := ⟨_, rfl⟩
  rw [← hV7] at hcp
  have HVE : Hid (V7 = V6.drew.setRow gb (cur2.toList.take 0 ++ (X'.map (Value.int .i64) ++ cur2.toList.drop (0 + (X'.map (Value.int .i64)).length))).toArray) := hV7
  have HV7 : Hid (BD lo kb gb cb gt ct n p (.slice (some ⟨ge, 0, none⟩) (en' + 1) ec) X' X' es V7 ∧ Below lo w V7 ∧ V7.cell? ⟨K5, 1, none⟩ = some (.int .i64 E') ∧ K5 < V7.heap.size) := by
    refine ⟨hcp, ?_, ?_, ?_⟩
    · rw [hV7]; exact (HV6.out.2.1.drew).trans (setRow_below HV6.out.1.glo.1 _)
    · rw [hV7]
      have hh : (V6.drew.setRow gb (cur2.toList.take 0 ++ (X'.map (Value.int .i64) ++ cur2.toList.drop (0 + (X'.map (Value.int .i64)).length))).toArray).heap[K5]? = V6.drew.heap[K5]? := setRow_other _ _ _ _ (by have := HV6.out.2.2.2.2.1; omega)
      exact (World.cell?_of_block (a := ⟨K5, 1, none⟩) hh).trans HV6.out.2.2.2.1
    · rw [hV7]; have := HV6.out.2.2.2.2.2; simpa [World.setRow] using this
  have HCU : Hid (V6.drew.heap[gb]? = some (.cells cur2 2 (0, 0)) ∧ n ≤ cur2.size) := ⟨hcur, hcn⟩
  clear hcur hcn hcp hV7
  obtain ⟨a0, a1, a2, a3, af, al⟩ := four_at HV6.out.1.kb_
  clear af
  refine wp_region_still_tail 8 (by kernel_rfl) (by kernel_rfl) ?_
  have hdw : ({ V6 with drawn := V6.drawn + 1 } : World) = V6.drew := rfl
  rw [hdw]
  clear hdw
  simp only [List.take_succ_cons, List.take_zero, List.drop_succ_cons, List.drop_zero]
  iterate 8 still_step
  refine wpStill_nil ?_
  refine wpList_copy_own rfl (.tmp 60) (.tmp 64) 23 23 rfl 2 Try.underlying23 info_one gb 0 n cb ⟨gt, 0, none⟩ n ct rfl rfl cur2 2 HCU.out.1 (X'.map (Value.int .i64)) (by have := HV6.out.1.len.2; simp; omega) (nums_at ((HV6.out.1.next ((Below.refl _ _).drew)).tr)) (by have := HCU.out.2; have := HV6.out.1.len.2; simp; omega) (nums_one X') ?_
  rw [← HVE.out]
  clear HVE HCU a0 a1 a2 a3 al
  obtain ⟨b0, b1, b2, b3, bf, bl⟩ := four_at HV7.out.1.kb_
  have bf2 := bf 2
  have f1 := HV7.out.2.2.1
  have fl := HV7.out.2.2.2
  clear bf
  go_wp2
  obtain ⟨i0, hi, hz0, hz1, hz2⟩ := info_parts info_i64
  refine wp_region_holdsA (S := fun w' => w'.cell? ⟨K5, 1, none⟩ = some (.int .i64 E')) (by kernel_rfl) f1 (fun hS => ?_)
  refine fl_takeA (i := 0) (d := 66) (v := .pointer (some ⟨kb, 0, none⟩)) rfl rfl rfl (by kernel_rfl) (by kernel_rfl) (by kernel_rfl) hS ?_ ?_
  · intro w' hk; go_simp
  simp only [Act.put, List.setIfInBounds_toArray, List.set_cons_zero, List.set_cons_succ]
  refine fl_takeA (i := 1) (d := 67) (v := .pointer (some ⟨kb, 0, none⟩)) rfl rfl rfl (by kernel_rfl) (by kernel_rfl) (by kernel_rfl) hS ?_ ?_
  · intro w' hk; go_simp
  simp only [Act.put, List.setIfInBounds_toArray, List.set_cons_zero, List.set_cons_succ]
  refine fl_takeA (i := 2) (d := 68) (v := .pointer (some ⟨kb, 0, none⟩)) rfl rfl rfl (by kernel_rfl) (by kernel_rfl) (by kernel_rfl) hS ?_ ?_
  · intro w' hk; go_simp
  simp only [Act.put, List.setIfInBounds_toArray, List.set_cons_zero, List.set_cons_succ]
  refine fl_takeA (i := 3) (d := 69) (v := .pointer (some ⟨kb, 2, none⟩)) rfl rfl rfl (by kernel_rfl) (by kernel_rfl) (by kernel_rfl) hS ?_ ?_
  · intro w' hk; go_simp
  simp only [Act.put, List.setIfInBounds_toArray, List.set_cons_zero, List.set_cons_succ]
  refine fl_takeA (i := 5) (d := 71) (v := .pointer (some ⟨K5, 1, none⟩)) rfl rfl rfl (by kernel_rfl) (by kernel_rfl) (by kernel_rfl) hS ?_ ?_
  · intro w' hk; go_simp
  simp only [Act.put, List.setIfInBounds_toArray, List.set_cons_zero, List.set_cons_succ]
  refine fl_takeA (i := 6) (d := 72) (v := .int .i64 E') rfl rfl rfl (by kernel_rfl) (by kernel_rfl) (by kernel_rfl) hS ?_ ?_
  · intro w' hk; go_simp
  simp only [Act.put, List.setIfInBounds_toArray, List.set_cons_zero, List.set_cons_succ]
  have fkl : K5 ≠ kb ∧ K5 ≠ ge := by have := HV6.out.2.2.2.2.1; exact ⟨by omega, by omega⟩
  have hkge := HV6.out.2.2.2.2.1
  have hbA : Below V7.heap.size V7 (V7.drew.alloc (.cells #[.int .i64 E'] 2)) := by (repeat' (first | (with_reducible exact Below.refl _ _) | (with_reducible assumption) | (with_reducible refine Below.setCell ?_ ?_ _) | (with_reducible refine Below.alloc ?_ ?_ _) | (with_reducible refine below_drewN ?_ _) | (with_reducible refine Below.drew ?_) | (with_reducible exact Nat.le_refl _) | omega | (simp; done) | (simp; omega)))
  refine wpAnyH_all (rs := [4, 7]) (by kernel_rfl) (by simp) ?_
  intro i hi4
  rcases (by simpa using hi4 : i = 4 ∨ i = 7) with rfl | rfl
  · refine op_val (d := 70) (v := .slice (some ⟨ge, 0, none⟩) (en' + 1) ec) (w' := V7.drew) rfl rfl rfl (by go_simp) ?_
    simp only [Act.put, List.setIfInBounds_toArray, List.set_cons_zero, List.set_cons_succ]
    refine ⟨hS, wpAnyH_all (rs := [7]) (by kernel_rfl) (by simp) ?_⟩
    intro i hi7
    obtain rfl : i = 7 := by simpa using hi7
    refine op_val (d := 73) (v := .slice (some ⟨V7.heap.size, 0, none⟩) 1 1) (w' := V7.drew.alloc (.cells #[.int .i64 E'] 2)) rfl rfl rfl (by go_simp; try rfl) ?_
    simp only [Act.put, List.setIfInBounds_toArray, List.set_cons_zero, List.set_cons_succ]
    refine ⟨(World.cell?_of_block (a := ⟨K5, 1, none⟩) (hbA.block K5 fl)).trans f1, ?_⟩
    obtain ⟨Wb, hWb⟩ : ∃ W, W = V7.drew.alloc (.cells #[.int .i64 E'] 2) := ⟨_, rfl⟩
    try rw [← hWb]
    have hbWb : Below V7.heap.size V7 Wb := by rw [hWb]; (repeat' (first | (with_reducible exact Below.refl _ _) | (with_reducible assumption) | (with_reducible refine Below.setCell ?_ ?_ _) | (with_reducible refine Below.alloc ?_ ?_ _) | (with_reducible refine below_drewN ?_ _) | (with_reducible refine Below.drew ?_) | (with_reducible exact Nat.le_refl _) | omega | (simp; done) | (simp; omega)))
    have hBb := HV7.out.1.next hbWb
    refine wpAnyH_all (rs := [8]) (by kernel_rfl) (by simp) ?_
    intro i hi8
    obtain rfl : i = 8 := by simpa using hi8
    refine op_appC (dd := 74) rfl rfl rfl (.tmp 70) (.tmp 73) 23 rfl lo 2 i0 (.int .i64 0) 1 8 Try.underlying23 hi hz0 hz1 hz2 rfl (by decide) (.slice (some ⟨ge, 0, none⟩) (en' + 1) ec) (en' + 1) (es.map (Value.int .i64)) rfl (by have h9 := hBb.er; unfold IS at h9; rw [← H.out.2.2.2.2.1] at h9; exact h9) ⟨V7.heap.size, 0, none⟩ 1 1 [.int .i64 E'] rfl rfl (World.news_of_block (cs := #[.int .i64 E']) (t := 2) (fr := (0, 0)) (by rw [hWb]; exact heap_alloc_new V7.drew _)) (by simp [Value.oneCell']) (by omega) (by unfold maxLen; omega) (by omega) (by have := hbWb.size; have := HV7.out.2.1.size; omega) ?_
    intro g8 c8 w8 hown8 hgrow8 hg8 hgl8
    simp only [Act.put, List.setIfInBounds_toArray, List.set_cons_zero, List.set_cons_succ]
    have hs8 : V7.heap.size ≤ w8.heap.size := Nat.le_trans hbWb.size hgrow8.size
    have hbl8 : ∀ q, q < V7.heap.size → q ≠ ge → w8.heap[q]? = V7.heap[q]? := fun q hq hne => (hgrow8.block q (Nat.lt_of_lt_of_le hq hbWb.size) (fun e => hne (by injection e with e <;> exact e.symm))).trans (hbWb.block q hq)
    have hK5 : w8.cell? ⟨K5, 1, none⟩ = some (.int .i64 E') := (World.cell?_of_block (a := ⟨K5, 1, none⟩) (hbl8 K5 fl (by omega))).trans f1
    have hdk := HV7.out.1.d2 ge rfl
    have k8 : w8.heap[kb]? = some (.cells #[.slice (some ⟨gb, 0, none⟩) n cb, .slice (some ⟨gt, 0, none⟩) n ct, .slice (some ⟨ge, 0, none⟩) (en' + 1) ec, fnV p] 64) := (hbl8 kb bl (fun e => hdk.2.2 e.symm)).trans HV7.out.1.kb_
    obtain ⟨k80, k81, k82, k83, k8f, k8l⟩ := four_at k8
    have k8f2 := k8f 2
    have hne8 : g8 ≠ gb ∧ g8 ≠ gt ∧ g8 ≠ kb := by
      rcases hg8 with e | e
      · injection e with e
        have e' : ge = g8 := e
        rw [← e']; exact hdk
      · have := hbWb.size; exact ⟨by omega, by omega, by omega⟩
    refine ⟨hK5, wpAnyH_all (rs := [9]) (by kernel_rfl) (by simp) ?_⟩
    intro i hi9
    obtain rfl : i = 9 := by simpa using hi9
    refine op_val (d := 75) (v := .pointer (some ⟨kb, 0, none⟩)) (w' := w8) rfl rfl rfl (by go_simp) ?_
    simp only [Act.put, List.setIfInBounds_toArray, List.set_cons_zero, List.set_cons_succ]
    refine ⟨hK5, wpAnyH_all (rs := [10]) (by kernel_rfl) (by simp) ?_⟩
    intro i hi10
    obtain rfl : i = 10 := by simpa using hi10
    refine op_val (d := 76) (v := .pointer (some ⟨kb, 2, none⟩)) (w' := w8) rfl rfl rfl (by go_simp) ?_
    simp only [Act.put, List.setIfInBounds_toArray, List.set_cons_zero, List.set_cons_succ]
    refine ⟨hK5, wpAnyH_all (rs := [11]) (by kernel_rfl) (by simp) ?_⟩
    intro i hi11
    obtain rfl : i = 11 := by simpa using hi11
    refine op_skipN (w' := w8.setCell ⟨kb, 2, none⟩ (.slice (some ⟨g8, 0, none⟩) (en' + 1 + 1) c8)) rfl rfl (by go_simp) ?_
    have HF : Hid (BD lo kb gb cb gt ct n p (.slice (some ⟨g8, 0, none⟩) (en' + 1 + 1) c8) X' X' (es ++ [E']) (w8.setCell ⟨kb, 2, none⟩ (.slice (some ⟨g8, 0, none⟩) (en' + 1 + 1) c8)) ∧ Below lo w (w8.setCell ⟨kb, 2, none⟩ (.slice (some ⟨g8, 0, none⟩) (en' + 1 + 1) c8))) := by
      have hglo := HV7.out.1.glo
      have hgel : lo ≤ ge := (IS.lt HV7.out.1.er ge rfl).1
      refine ⟨⟨?_, ?_, ?_, ?_, HV7.out.1.d1, fun g hg => ?_⟩, ?_⟩
      · have := heap_setCell_same _ _ 2 _ _ (.slice (some ⟨g8, 0, none⟩) (en' + 1 + 1) c8) k8
        simpa using this
      · refine HV7.out.1.be.kept fun g hg => ?_
        injection hg with hg
        have hg' : gb = g := hg
        subst hg'
        rw [heap_setCell_other _ _ _ _ (by have := HV7.out.1.d1; simp; omega)]
        exact hbl8 gb (IS.lt HV7.out.1.be gb rfl).2 (fun e => hdk.1 e.symm)
      · refine HV7.out.1.tr.kept fun g hg => ?_
        injection hg with hg
        have hg' : gt = g := hg
        subst hg'
        rw [heap_setCell_other _ _ _ _ (by have := HV7.out.1.d1; simp; omega)]
        exact hbl8 gt (IS.lt HV7.out.1.tr gt rfl).2 (fun e => hdk.2.1 e.symm)
      · have h8 : IS w8 lo (.slice (some ⟨g8, 0, none⟩) (en' + 1 + 1) c8) (es ++ [E']) := IS.snocL (by rw [← H.out.2.2.2.2.1]; exact hown8)
        refine h8.kept fun g hg => ?_
        injection hg with hg
        have hg' : g8 = g := hg
        subst hg'
        exact heap_setCell_other _ _ _ _ (by simp; exact hne8.2.2)
      · injection hg with hg
        have hg' : g8 = g := hg
        subst hg'
        exact hne8
      · refine ((HV7.out.2.1.trans (hbWb.mono (by have := HV7.out.2.1.size; omega))).grown hgrow8 (by have := hbWb.size; have := HV7.out.2.1.size; omega) (fun q hq => ?_)).setCell hglo.2.2 _
        injection hq with hq
        have hq' : ge = q := hq
        omega
    refine ⟨?_, wpAnyH_done (by kernel_rfl) (NoPanic.normal ?_) _⟩
    · exact (World.cell?_of_block (a := ⟨K5, 1, none⟩) (heap_setCell_other _ _ _ _ (by simp; omega))).trans hK5
    clear hbWb hBb hown8 hgrow8 hg8 hgl8 hs8 hbl8 hK5 k8 k80 k81 k82 k83 k8f k8l k8f2 hne8 hS
    obtain ⟨V9, hV9⟩ : ∃ V, V = w8.setCell ⟨kb, 2, none⟩ (.slice (some ⟨g8, 0, none⟩) (en' + 1 + 1) c8) := ⟨_, rfl⟩
    rw [← hV9] at HF ⊢
    clear hV9
    go_wp2
    go_returns
    refine ⟨by rw [HN.out]; rfl, ⟨gb, cb, gt, ct, .slice (some ⟨g8, 0, none⟩) (en' + 1 + 1) c8, X', ?_⟩, HF.out.2⟩
    rw [HN.out]
    have h9 := HF.out.1
    rw [← H.out.2.2.2.2.2.1] at h9
    rw [← H.out.2.2.2.2.2.1]
    exact h9
  · refine op_val (d := 73) (v := .slice (some ⟨V7.heap.size, 0, none⟩) 1 1) (w' := V7.drew.alloc (.cells #[.int .i64 E'] 2)) rfl rfl rfl (by go_simp; try rfl) ?_
    simp only [Act.put, List.setIfInBounds_toArray, List.set_cons_zero, List.set_cons_succ]
    refine ⟨(World.cell?_of_block (a := ⟨K5, 1, none⟩) (hbA.block K5 fl)).trans f1, wpAnyH_all (rs := [4]) (by kernel_rfl) (by simp) ?_⟩
    intro i hi7
    obtain rfl : i = 4 := by simpa using hi7
    refine op_val (d := 70) (v := .slice (some ⟨ge, 0, none⟩) (en' + 1) ec) (w' := V7.drew.alloc (.cells #[.int .i64 E'] 2)) rfl rfl rfl (by go_simp) ?_
    simp only [Act.put, List.setIfInBounds_toArray, List.set_cons_zero, List.set_cons_succ]
    refine ⟨(World.cell?_of_block (a := ⟨K5, 1, none⟩) (hbA.block K5 fl)).trans f1, ?_⟩
    obtain ⟨Wb, hWb⟩ : ∃ W, W = V7.drew.alloc (.cells #[.int .i64 E'] 2) := ⟨_, rfl⟩
    try rw [← hWb]
    have hbWb : Below V7.heap.size V7 Wb := by rw [hWb]; (repeat' (first | (with_reducible exact Below.refl _ _) | (with_reducible assumption) | (with_reducible refine Below.setCell ?_ ?_ _) | (with_reducible refine Below.alloc ?_ ?_ _) | (with_reducible refine below_drewN ?_ _) | (with_reducible refine Below.drew ?_) | (with_reducible exact Nat.le_refl _) | omega | (simp; done) | (simp; omega)))
    have hBb := HV7.out.1.next hbWb
    refine wpAnyH_all (rs := [8]) (by kernel_rfl) (by simp) ?_
    intro i hi8
    obtain rfl : i = 8 := by simpa using hi8
    refine op_appC (dd := 74) rfl rfl rfl (.tmp 70) (.tmp 73) 23 rfl lo 2 i0 (.int .i64 0) 1 8 Try.underlying23 hi hz0 hz1 hz2 rfl (by decide) (.slice (some ⟨ge, 0, none⟩) (en' + 1) ec) (en' + 1) (es.map (Value.int .i64)) rfl (by have h9 := hBb.er; unfold IS at h9; rw [← H.out.2.2.2.2.1] at h9; exact h9) ⟨V7.heap.size, 0, none⟩ 1 1 [.int .i64 E'] rfl rfl (World.news_of_block (cs := #[.int .i64 E']) (t := 2) (fr := (0, 0)) (by rw [hWb]; exact heap_alloc_new V7.drew _)) (by simp [Value.oneCell']) (by omega) (by unfold maxLen; omega) (by omega) (by have := hbWb.size; have := HV7.out.2.1.size; omega) ?_
    intro g8 c8 w8 hown8 hgrow8 hg8 hgl8
    simp only [Act.put, List.setIfInBounds_toArray, List.set_cons_zero, List.set_cons_succ]
    have hs8 : V7.heap.size ≤ w8.heap.size := Nat.le_trans hbWb.size hgrow8.size
    have hbl8 : ∀ q, q < V7.heap.size → q ≠ ge → w8.heap[q]? = V7.heap[q]? := fun q hq hne => (hgrow8.block q (Nat.lt_of_lt_of_le hq hbWb.size) (fun e => hne (by injection e with e <;> exact e.symm))).trans (hbWb.block q hq)
    have hK5 : w8.cell? ⟨K5, 1, none⟩ = some (.int .i64 E') := (World.cell?_of_block (a := ⟨K5, 1, none⟩) (hbl8 K5 fl (by omega))).trans f1
    have hdk := HV7.out.1.d2 ge rfl
    have k8 : w8.heap[kb]? = some (.cells #[.slice (some ⟨gb, 0, none⟩) n cb, .slice (some ⟨gt, 0, none⟩) n ct, .slice (some ⟨ge, 0, none⟩) (en' + 1) ec, fnV p] 64) := (hbl8 kb bl (fun e => hdk.2.2 e.symm)).trans HV7.out.1.kb_
    obtain ⟨k80, k81, k82, k83, k8f, k8l⟩ := four_at k8
    have k8f2 := k8f 2
    have hne8 : g8 ≠ gb ∧ g8 ≠ gt ∧ g8 ≠ kb := by
      rcases hg8 with e | e
      · injection e with e
        have e' : ge = g8 := e
        rw [← e']; exact hdk
      · have := hbWb.size; exact ⟨by omega, by omega, by omega⟩
    refine ⟨hK5, wpAnyH_all (rs := [9]) (by kernel_rfl) (by simp) ?_⟩
    intro i hi9
    obtain rfl : i = 9 := by simpa using hi9
    refine op_val (d := 75) (v := .pointer (some ⟨kb, 0, none⟩)) (w' := w8) rfl rfl rfl (by go_simp) ?_
    simp only [Act.put, List.setIfInBounds_toArray, List.set_cons_zero, List.set_cons_succ]
    refine ⟨hK5, wpAnyH_all (rs := [10]) (by kernel_rfl) (by simp) ?_⟩
    intro i hi10
    obtain rfl : i = 10 := by simpa using hi10
    refine op_val (d := 76) (v := .pointer (some ⟨kb, 2, none⟩)) (w' := w8) rfl rfl rfl (by go_simp) ?_
    simp only [Act.put, List.setIfInBounds_toArray, List.set_cons_zero, List.set_cons_succ]
    refine ⟨hK5, wpAnyH_all (rs := [11]) (by kernel_rfl) (by simp) ?_⟩
    intro i hi11
    obtain rfl : i = 11 := by simpa using hi11
    refine op_skipN (w' := w8.setCell ⟨kb, 2, none⟩ (.slice (some ⟨g8, 0, none⟩) (en' + 1 + 1) c8)) rfl rfl (by go_simp) ?_
    have HF : Hid (BD lo kb gb cb gt ct n p (.slice (some ⟨g8, 0, none⟩) (en' + 1 + 1) c8) X' X' (es ++ [E']) (w8.setCell ⟨kb, 2, none⟩ (.slice (some ⟨g8, 0, none⟩) (en' + 1 + 1) c8)) ∧ Below lo w (w8.setCell ⟨kb, 2, none⟩ (.slice (some ⟨g8, 0, none⟩) (en' + 1 + 1) c8))) := by
      have hglo := HV7.out.1.glo
      have hgel : lo ≤ ge := (IS.lt HV7.out.1.er ge rfl).1
      refine ⟨⟨?_, ?_, ?_, ?_, HV7.out.1.d1, fun g hg => ?_⟩, ?_⟩
      · have := heap_setCell_same _ _ 2 _ _ (.slice (some ⟨g8, 0, none⟩) (en' + 1 + 1) c8) k8
        simpa using this
      · refine HV7.out.1.be.kept fun g hg => ?_
        injection hg with hg
        have hg' : gb = g := hg
        subst hg'
        rw [heap_setCell_other _ _ _ _ (by have := HV7.out.1.d1; simp; omega)]
        exact hbl8 gb (IS.lt HV7.out.1.be gb rfl).2 (fun e => hdk.1 e.symm)
      · refine HV7.out.1.tr.kept fun g hg => ?_
        injection hg with hg
        have hg' : gt = g := hg
        subst hg'
        rw [heap_setCell_other _ _ _ _ (by have := HV7.out.1.d1; simp; omega)]
        exact hbl8 gt (IS.lt HV7.out.1.tr gt rfl).2 (fun e => hdk.2.1 e.symm)
      · have h8 : IS w8 lo (.slice (some ⟨g8, 0, none⟩) (en' + 1 + 1) c8) (es ++ [E']) := IS.snocL (by rw [← H.out.2.2.2.2.1]; exact hown8)
        refine h8.kept fun g hg => ?_
        injection hg with hg
        have hg' : g8 = g := hg
        subst hg'
        exact heap_setCell_other _ _ _ _ (by simp; exact hne8.2.2)
      · injection hg with hg
        have hg' : g8 = g := hg
        subst hg'
        exact hne8
      · refine ((HV7.out.2.1.trans (hbWb.mono (by have := HV7.out.2.1.size; omega))).grown hgrow8 (by have := hbWb.size; have := HV7.out.2.1.size; omega) (fun q hq => ?_)).setCell hglo.2.2 _
        injection hq with hq
        have hq' : ge = q := hq
        omega
    refine ⟨?_, wpAnyH_done (by kernel_rfl) (NoPanic.normal ?_) _⟩
    · exact (World.cell?_of_block (a := ⟨K5, 1, none⟩) (heap_setCell_other _ _ _ _ (by simp; omega))).trans hK5
    clear hbWb hBb hown8 hgrow8 hg8 hgl8 hs8 hbl8 hK5 k8 k80 k81 k82 k83 k8f k8l k8f2 hne8 hS
    obtain ⟨V9, hV9⟩ : ∃ V, V = w8.setCell ⟨kb, 2, none⟩ (.slice (some ⟨g8, 0, none⟩) (en' + 1 + 1) c8) := ⟨_, rfl⟩
    rw [← hV9] at HF ⊢
    clear hV9
    go_wp2
    go_returns
    refine ⟨by rw [HN.out]; rfl, ⟨gb, cb, gt, ct, .slice (some ⟨g8, 0, none⟩) (en' + 1 + 1) c8, X', ?_⟩, HF.out.2⟩
    rw [HN.out]
    have h9 := HF.out.1
    rw [← H.out.2.2.2.2.2.1] at h9
    rw [← H.out.2.2.2.2.2.1]
    exact h9


end Go.Proofs.Ytfjcebgknpccbab
