/- Proved here: how the laws' package copies lists of lots. No condition on the program but on its table of types. (And ahead of it: Proved here: books that are read, none of whose lists is nil with room. No condition.) -/
import Derived.Test.YtcfjanignfbidaaQlT
namespace Go.Proofs.Ytcfjanignfbidaa
open Go.RowKit Go.Maps
set_option linter.unusedVariables false
set_option linter.unusedSimpArgs false

/-- Not nil with room. -/
def NC (v : Value) : Prop := ∀ n c, v = .slice none n c → n = 0 ∧ c = 0
theorem OG.nc {α : Type} {T k : Nat} {enc : α → List Value} {w : World} {B : Nat} {v : Value} {s : List α} (h : OG T k enc w B v s) : NC v := by
  intro n c e
  rcases h.2 with ⟨h1, _⟩ | ⟨g, cap, cur, h1, _⟩
  · rw [h1] at e; injection e with _ e1 e2; exact ⟨e1.symm, e2.symm⟩
  · rw [h1] at e; injection e with e1; cases e1
theorem IS.nc {w : World} {B : Nat} {v : Value} {s : List Int} (h : IS w B v s) : NC v := OG.nc (og_is.2 h)
def RXo (w : World) (v : Value) (s : List Lo) : Prop := ∃ rs, RG 5 lrC w v rs ∧ RelLo w rs s ∧ ∀ j (h : j < rs.length), NC rs[j].wv ∧ NC rs[j].dv
theorem RXo.rlo {w : World} {v : Value} {s : List Lo} (h : RXo w v s) : RLo w v s := by
  obtain ⟨rs, h1, h2, _⟩ := h; exact ⟨rs, h1, h2⟩
theorem RXo.below {w w' : World} {v : Value} {s : List Lo} (h : RXo w v s) (hb : Below w.heap.size w w') : RXo w' v s := by
  obtain ⟨rs, h1, h2, h3⟩ := h; exact ⟨rs, h1.below hb, h2.below hb, h3⟩
theorem RXo.at {w : World} {v : Value} {s : List Lo} (h : RXo w v s) {j : Nat} (hj : j < s.length) : ∃ g o c, v = .slice (some ⟨g, o, none⟩) s.length c ∧ g < w.heap.size ∧ ∃ r : Lr, Lr1 w r s[j] ∧ (NC r.wv ∧ NC r.dv) ∧ w.cell? ⟨g, o + j * 5, none⟩ = some (.int .i64 r.id) ∧ w.cell? ⟨g, o + j * 5 + 1, none⟩ = some (.int .i64 r.pa) ∧ w.cell? ⟨g, o + j * 5 + 2, none⟩ = some (.slice r.wa r.wn r.wc) ∧ w.cell? ⟨g, o + j * 5 + 3, none⟩ = some (.bool r.hd) ∧ w.cell? ⟨g, o + j * 5 + 4, none⟩ = some (.slice r.da r.dn r.dc) := by
  obtain ⟨rs, h1, h2, h3⟩ := h
  have hl := h2.len
  obtain ⟨g, o, c, rfl, hg, hc⟩ := h1.pos (by omega)
  exact ⟨g, o, c, by rw [hl], hg, rs[j], h2.at_ j (by omega) hj, h3 j (by omega), lrC_at (hc j (by omega))⟩
structure RdX (w : World) (vw vl vs : Value) (b : Bk) : Prop where
  wn : RG 3 wdC w vw b.wn
  nw : NC vw
  ls : RXo w vl b.ls
  sc : RdI w vs b.sc
  ns : NC vs
theorem RdX.rd {w : World} {vw vl vs : Value} {b : Bk} (h : RdX w vw vl vs b) : RdBk w vw vl vs b := ⟨h.wn, h.ls.rlo, h.sc⟩
theorem RdX.below {w w' : World} {vw vl vs : Value} {b : Bk} (h : RdX w vw vl vs b) (hb : Below w.heap.size w w') : RdX w' vw vl vs b := ⟨h.wn.below hb, h.nw, h.ls.below hb, h.sc.below hb, h.ns⟩
theorem PB.rx {V : World} {B : Nat} {vw vl vs : Value} {b : Bk} {rs : List Lr} (h : PB V B vw vl vs (wvO rs) b rs) : RdX V vw vl vs b :=
  ⟨OG.rg wdC_len h.wn, OG.nc h.wn, ⟨rs, OG.rg lrC_len h.row, ⟨h.len, fun j h1 h2 => ⟨(h.nm j h1 h2).1, (h.nm j h1 h2).2.1, (h.nm j h1 h2).2.2, by have := (h.ws j h2).rg; rw [wvO_lt h1] at this; exact this, (h.dn j h1 h2).rg⟩⟩, fun j h1 => ⟨by have := (h.ws j (by rw [← h.len]; exact h1)).nc; rw [wvO_lt h1] at this; exact this, (h.dn j h1 (by rw [← h.len]; exact h1)).nc⟩⟩, h.sc.rg, h.sc.nc⟩
theorem OBk.rx {V : World} {B : Nat} {vw vl vs : Value} {b : Bk} (h : OBk V B vw vl vs b) : RdX V vw vl vs b := by
  obtain ⟨rs, h⟩ := h; exact h.rx

end Go.Proofs.Ytcfjanignfbidaa

namespace Go.Proofs.Ytcfjanignfbidaa
open Go.ChangeShapes Go.WideShapes Go.ChangeAt Go.RowKit Go.Joins Go.Deep
set_option linter.unusedVariables false
set_option linter.unusedSimpArgs false


/-- The copies made so far. -/
structure CpL (w wr : World) (n : Nat) (s : List Lo) (j : Nat) (rs : List Lr) : Prop where
  len : rs.length = j
  fill : Fill 61 5 lrC wr w.heap.size w.heap.size n rs j
  nm : ∀ i (h : i < rs.length) (h' : i < s.length), rs[i].id = s[i].id ∧ rs[i].pa = s[i].pa ∧ rs[i].hd = s[i].hd
  ws : ∀ i (h : i < rs.length) (h' : i < s.length), IS wr (w.heap.size + 1) rs[i].wv s[i].ws
  dn : ∀ i (h : i < rs.length) (h' : i < s.length), IS wr (w.heap.size + 1) rs[i].dv s[i].dn
  ap : ApS (slv nilV (wvO rs) (dvO rs))
  bl : Below w.heap.size w wr
theorem CpL.slt {w wr : World} {n : Nat} {s : List Lo} {j : Nat} {rs : List Lr} (h : CpL w wr n s j rs) (hjs : j ≤ s.length) : ∀ a g, (slv nilV (wvO rs) (dvO rs) a).ownBlock = some g → g < wr.heap.size := by
  intro a g hg
  have hl := h.len
  cases a with
  | s => cases hg
  | w i =>
    rcases Nat.lt_or_ge i rs.length with h1 | h1
    · have hg' : (wvO rs i).ownBlock = some g := hg
      rw [wvO_lt h1] at hg'
      exact (IS.lt (h.ws i h1 (by omega)) g hg').2
    · have hg' : (wvO rs i).ownBlock = some g := hg
      rw [wvO_ge h1] at hg'; cases hg'
  | d i =>
    rcases Nat.lt_or_ge i rs.length with h1 | h1
    · have hg' : (dvO rs i).ownBlock = some g := hg
      rw [dvO_lt h1] at hg'
      exact (IS.lt (h.dn i h1 (by omega)) g hg').2
    · have hg' : (dvO rs i).ownBlock = some g := hg
      rw [dvO_ge h1] at hg'; cases hg'
/-- A lot with lists of new memory, behind the others: no two slots share a block. -/
theorem ApS.push {vs : Value} {rs : List Lr} {r : Lr} {Z : Nat} (h : ApS (slv vs (wvO rs) (dvO rs))) (ho : ∀ a g, (slv vs (wvO rs) (dvO rs) a).ownBlock = some g → g < Z)
    (hw : ∀ g, r.wv.ownBlock = some g → Z ≤ g) (hd : ∀ g, r.dv.ownBlock = some g → Z ≤ g) (hn : ∀ g, r.wv.ownBlock = some g → r.dv.ownBlock ≠ some g) : ApS (slv vs (wvO (rs ++ [r])) (dvO (rs ++ [r]))) := by
  have hx : ∀ a, slv vs (wvO (rs ++ [r])) (dvO (rs ++ [r])) a = slv vs (wvO rs) (dvO rs) a ∨ (a = .w rs.length ∧ slv vs (wvO (rs ++ [r])) (dvO (rs ++ [r])) a = r.wv) ∨ (a = .d rs.length ∧ slv vs (wvO (rs ++ [r])) (dvO (rs ++ [r])) a = r.dv) := by
    intro a
    cases a with
    | s => exact Or.inl rfl
    | w j =>
      have e := wvO_push rs r j
      by_cases hj : j = rs.length
      · rw [if_pos hj] at e; exact Or.inr (Or.inl ⟨by rw [hj], e⟩)
      · rw [if_neg hj] at e; exact Or.inl e
    | d j =>
      have e := dvO_push rs r j
      by_cases hj : j = rs.length
      · rw [if_pos hj] at e; exact Or.inr (Or.inr ⟨by rw [hj], e⟩)
      · rw [if_neg hj] at e; exact Or.inl e
  refine h.mix (Z := Z) ho (fun a => ?_) (fun a b hab g hz ha hb => ?_)
  · rcases hx a with e | ⟨_, e⟩ | ⟨_, e⟩
    · exact Or.inl e
    · exact Or.inr fun g hg => by rw [e] at hg; exact hw g hg
    · exact Or.inr fun g hg => by rw [e] at hg; exact hd g hg
  · rcases hx a with e | ⟨ea, e⟩ | ⟨ea, e⟩
    · rw [e] at ha; have := ho a g ha; omega
    · rw [e] at ha
      rcases hx b with e' | ⟨eb, e'⟩ | ⟨eb, e'⟩
      · rw [e'] at hb; have := ho b g hb; omega
      · exact hab (ea.trans eb.symm)
      · rw [e'] at hb; exact hn g ha hb
    · rw [e] at ha
      rcases hx b with e' | ⟨eb, e'⟩ | ⟨eb, e'⟩
      · rw [e'] at hb; have := ho b g hb; omega
      · rw [e'] at hb; exact hn g hb ha
      · exact hab (ea.trans eb.symm)
/-- One more. -/
theorem CpL.push {w wr w3 W : World} {n : Nat} {s : List Lo} {j : Nat} {rs : List Lr} (h : CpL w wr n s j rs) (hjn : j < n) (hns : n ≤ s.length) (hb3 : Below wr.heap.size wr w3) (r : Lr) (hnm : r.id = (s[j]'(by omega)).id ∧ r.pa = (s[j]'(by omega)).pa ∧ r.hd = (s[j]'(by omega)).hd)
    (hw : IS w3 wr.heap.size r.wv (s[j]'(by omega)).ws) (hd : IS w3 wr.heap.size r.dv (s[j]'(by omega)).dn) (hap : ∀ g, r.wv.ownBlock = some g → r.dv.ownBlock ≠ some g)
    (hW : W = putsAt w3 w.heap.size (j * 5) 0 (lrC r)) : CpL w W n s (j + 1) (rs ++ [r]) := by
  have hF3 := h.fill.below hb3
  have hlt3 := h.fill.lt
  have hbl3 : Below w.heap.size w w3 := h.bl.trans (hb3.mono h.bl.size)
  have hoth : ∀ q, w.heap.size + 1 ≤ q → W.heap[q]? = w3.heap[q]? := fun q hq => by rw [hW]; exact puts_other (by omega) _ _ _
  have keepO : ∀ {v : Value} {l : List Int}, IS wr (w.heap.size + 1) v l → IS W (w.heap.size + 1) v l := fun hv => by
    have := hv.bel hb3
    exact this.kept (fun q hq => hoth q (IS.lt this q hq).1)
  have keepN : ∀ {v : Value} {l : List Int}, IS w3 wr.heap.size v l → IS W (w.heap.size + 1) v l := fun hv => by
    have h5 := hv.low (show w.heap.size + 1 ≤ wr.heap.size by have := hlt3; omega)
    exact h5.kept (fun q hq => hoth q (IS.lt h5 q hq).1)
  have last : ∀ {i : Nat}, i < (rs ++ [r]).length → rs.length ≤ i → i = j := fun {i} h1 h3 => by rw [List.length_append, List.length_singleton] at h1; have := h.len; omega
  have hl := h.len
  refine ⟨by simp [h.len], ?_, fun i h1 h2 => ?_, fun i h1 h2 => ?_, fun i h1 h2 => ?_, h.ap.push (h.slt (by omega)) (fun g hg => (IS.lt hw g hg).1) (fun g hg => (IS.lt hd g hg).1) hap, by rw [hW]; exact puts_below hbl3 (Nat.le_refl _) _ _⟩
  · rw [hW]; exact hF3.push lrC_len h.len hjn r
  · rcases Nat.lt_or_ge i rs.length with h3 | h3
    · rw [List.getElem_append_left h3]; exact h.nm i h3 h2
    · have hi := last h1 h3
      subst hi
      rw [List.getElem_append_right h3]
      simp only [h.len, Nat.sub_self, List.getElem_cons_zero]
      exact hnm
  · rcases Nat.lt_or_ge i rs.length with h3 | h3
    · rw [List.getElem_append_left h3]; exact keepO (h.ws i h3 h2)
    · have hi := last h1 h3
      subst hi
      rw [List.getElem_append_right h3]
      simp only [h.len, Nat.sub_self, List.getElem_cons_zero]
      exact keepN hw
  · rcases Nat.lt_or_ge i rs.length with h3 | h3
    · rw [List.getElem_append_left h3]; exact keepO (h.dn i h3 h2)
    · have hi := last h1 h3
      subst hi
      rw [List.getElem_append_right h3]
      simp only [h.len, Nat.sub_self, List.getElem_cons_zero]
      exact keepN hd
/-- What the lists of lots that a call makes are. -/
structure OLs (V : World) (B : Nat) (v : Value) (s : List Lo) (rs : List Lr) : Prop where
  row : OG 61 5 lrC V B v rs
  len : rs.length = s.length
  nm : ∀ i (h : i < rs.length) (h' : i < s.length), rs[i].id = s[i].id ∧ rs[i].pa = s[i].pa ∧ rs[i].hd = s[i].hd
  ws : ∀ i (h : i < rs.length) (h' : i < s.length), IS V B rs[i].wv s[i].ws
  dn : ∀ i (h : i < rs.length) (h' : i < s.length), IS V B rs[i].dv s[i].dn
  ap : ApS (slv nilV (wvO rs) (dvO rs))
theorem CpL.ols {w wr : World} {n : Nat} {s : List Lo} {rs : List Lr} (h : CpL w wr n s n rs) (hn : n = s.length) : OLs wr w.heap.size (.slice (some ⟨w.heap.size, 0, none⟩) n n) s rs :=
  ⟨h.fill.done lrC_len h.len.symm (by rw [h.len]; exact Nat.le_refl _), h.len.trans hn, h.nm, fun j h1 h2 => (h.ws j h1 h2).low (by omega), fun j h1 h2 => (h.dn j h1 h2).low (by omega), h.ap⟩
theorem OLs.below {V V' : World} {B : Nat} {v : Value} {s : List Lo} {rs : List Lr} (h : OLs V B v s rs) (hb : Below V.heap.size V V') : OLs V' B v s rs :=
  ⟨h.row.below hb, h.len, h.nm, fun j h1 h2 => (h.ws j h1 h2).bel hb, fun j h1 h2 => (h.dn j h1 h2).bel hb, h.ap⟩
theorem OLs.low {V : World} {A B : Nat} {v : Value} {s : List Lo} {rs : List Lr} (h : OLs V B v s rs) (hab : A ≤ B) : OLs V A v s rs :=
  ⟨h.row.low hab, h.len, h.nm, fun j h1 h2 => (h.ws j h1 h2).low hab, fun j h1 h2 => (h.dn j h1 h2).low hab, h.ap⟩
/-- A book of such lots: windows and scrap in blocks of their own. -/
theorem OLs.pb {V : World} {B Z : Nat} {vw vl vs : Value} {b : Bk} {rs : List Lr} (h : OLs V B vl b.ls rs) (hw : OG 99 3 wdC V B vw b.wn) (hs : IS V B vs b.sc) (hsl : ∀ g, vs.ownBlock = some g → Z ≤ g) (hlt : ∀ a g, (slv nilV (wvO rs) (dvO rs) a).ownBlock = some g → g < Z) : PB V B vw vl vs (wvO rs) b rs := by
  refine ⟨hw, h.row, h.len, h.nm, fun j hj => by rw [wvO_lt (by rw [h.len]; exact hj)]; exact h.ws j _ hj, h.dn, hs, fun j hj => by rw [wvO_ge (by rw [h.len]; exact hj)]; rfl, ?_⟩
  refine h.ap.set .s (fun a ha => ?_) (fun a ha g hg e => ?_)
  · cases a with
    | s => exact absurd rfl ha
    | w j => rfl
    | d j => rfl
  · have h1 := hlt a g hg
    have h2 := hsl g e
    omega

set_option maxRecDepth 10000 in
set_option maxHeartbeats 3200000 in
theorem toLotS_any {w : World} {v : Value} {s : List Lo} (hn : s.length ≤ 1048576) (hsm : ∀ j (h : j < s.length), smLo 1048576 s[j]) (h : RLo w v s) :
    Calls Try.prog 41 #[v] w fun e w' => ∃ (g : Nat) (rs : List Lr), e = .returned (.slice (some ⟨g, 0, none⟩) s.length s.length) ∧ OLs w' w.heap.size (.slice (some ⟨g, 0, none⟩) s.length s.length) s rs ∧ (∀ a q, (slv nilV (wvO rs) (dvO rs) a).ownBlock = some q → q < w'.heap.size) ∧ Below w.heap.size w w' := by
  obtain ⟨rs, hrs, hrel⟩ := h
  obtain ⟨a, c, rfl⟩ := hrs.form
  have H : Hid (RG 5 lrC w (.slice a rs.length c) rs ∧ RelLo w rs s ∧ ∀ j (h : j < s.length), smLo 1048576 s[j]) := ⟨hrs, hrel, hsm⟩
  have hl := hrel.len
  clear hrs hrel hsm
  obtain ⟨i0, hi, hz0, hz1, hz2⟩ := info_parts info_Lot
  obtain ⟨n, hnn⟩ : ∃ n, n = s.length := ⟨_, rfl⟩
  have HN : Hid (n = s.length ∧ n = rs.length) := ⟨hnn, by rw [hnn, hl]⟩
  rw [← hnn] at hn hl ⊢
  rw [hl] at H ⊢
  clear hnn hl
  go_enter Try.func41, Try.ntmps41
  go_wp2_with (at_make; refine wpList_make_full _ rfl _ _ 29 rfl w.heap.size 61 i0 (.agg #[.int .i64 0, .int .i64 0, .slice none 0 0, .bool false, .slice none 0 0]) 5 Try.underlying29 hi hz0 hz1 _ _ _ _ n rfl rfl rfl rfl (by rw [hz2]; omega) (by unfold maxLen; omega) (Nat.le_refl _) ?_; intro w2 hown2 hgrow2)
  have hb2 : Below w.heap.size w w2 := (Below.refl _ _).grown hgrow2 (Nat.le_refl _) (fun k h => by cases h)
  have HS : Hid (CpL w w2 n s 0 []) := ⟨rfl, ⟨_, hown2, fun t ht => by omega⟩, fun i h => by simp at h, fun i h => by simp at h, fun i h => by simp at h, fun a b hab g hg => (by cases a <;> cases hg), hb2⟩
  clear hown2 hgrow2 hb2
  go_loopw [4] (fun i wr => ∃ (j : Nat) (cs : List Lr), j ≤ n ∧ i = .int .i64 j ∧ Hid (CpL w wr n s j cs)) (fun i _ => n - (intOf i).toNat)
  case atStart => exact ⟨0, [], Nat.zero_le _, rfl, HS.out⟩
  case round =>
    clear HS
    obtain ⟨j, cs, hjn, rfl, hR⟩ := hrel
    by_cases hlt : j < n
    · have hjl : j < s.length := by rw [← HN.out.1]; exact hlt
      have hjr : j < rs.length := by rw [← HN.out.2]; exact hlt
      have hrg : RG 5 lrC wr (.slice a n c) rs := H.out.1.below hR.out.bl
      obtain ⟨g, o, c2, he, hg, hj⟩ := hrg.pos (by rw [← HN.out.2]; omega)
      simp only [Value.slice.injEq] at he
      obtain ⟨rfl, hx1, hx2⟩ := he
      clear hx1 hx2 hrg
      obtain ⟨c0, c1, c2, c3, c4⟩ := lrC_at (hj j hjr)
      obtain ⟨x, hx⟩ : ∃ x, x = rs[j] := ⟨_, rfl⟩
      rw [← hx] at c0 c1 c2 c3 c4
      have HX : Hid (Lr1 wr x s[j] ∧ smLo 1048576 s[j]) := ⟨by rw [hx]; exact (H.out.2.1.below hR.out.bl).at_ j hjr hjl, H.out.2.2 j hjl⟩
      clear hx hj
      have b0 : (0 : Int) ≤ (j : Int) := by omega
      have b1 : (j : Int) < (n : Int) := by omega
      go_wp2_with (fail)
      refine (toLot_any x s[j] _ HX.out.2 HX.out.1).mono ?_
      rintro e w3 ⟨g1, g2, rfl, hgg, hr1, hr2, hb3⟩
      obtain ⟨r, hr⟩ : ∃ r : Lr, r = ⟨x.id, x.pa, some ⟨g1, 0, none⟩, s[j].ws.length, s[j].ws.length, x.hd, some ⟨g2, 0, none⟩, s[j].dn.length, s[j].dn.length⟩ := ⟨_, rfl⟩
      have hF3 := hR.out.fill.below hb3
      have hlt3 := hR.out.fill.lt
      obtain ⟨⟨u0, e0⟩, f0⟩ := hF3.there (j * 5) (by omega)
      obtain ⟨⟨u1, e1⟩, f1⟩ := hF3.there (j * 5 + 1) (by omega)
      obtain ⟨⟨u2, e2⟩, f2⟩ := hF3.there (j * 5 + 2) (by omega)
      obtain ⟨⟨u3, e3⟩, f3⟩ := hF3.there (j * 5 + 3) (by omega)
      obtain ⟨⟨u4, e4⟩, f4⟩ := hF3.there (j * 5 + 4) (by omega)
      obtain ⟨v1, hv1⟩ : ∃ v1, v1 = Value.slice (some ⟨g1, 0, none⟩) s[j].ws.length s[j].ws.length := ⟨_, rfl⟩
      obtain ⟨v2, hv2⟩ : ∃ v2, v2 = Value.slice (some ⟨g2, 0, none⟩) s[j].dn.length s[j].dn.length := ⟨_, rfl⟩
      rw [← hv1, ← hv2]
      obtain ⟨W, hW⟩ : ∃ W, W = ((((w3.setCell ⟨w.heap.size, j * 5, none⟩ (.int .i64 x.id)).setCell ⟨w.heap.size, j * 5 + 1, none⟩ (.int .i64 x.pa)).setCell ⟨w.heap.size, j * 5 + 2, none⟩ v1).setCell ⟨w.heap.size, j * 5 + 3, none⟩ (.bool x.hd)).setCell ⟨w.heap.size, j * 5 + 4, none⟩ v2 := ⟨_, rfl⟩
      have HP : Hid (CpL w W n s (j + 1) (cs ++ [r])) := by
        refine hR.out.push hlt (by rw [HN.out.1]; exact Nat.le_refl _) hb3 r ?_ ?_ ?_ ?_ ?_
        · rw [hr]; exact ⟨HX.out.1.id, HX.out.1.pa, HX.out.1.hd⟩
        · rw [hr]; exact hr1
        · rw [hr]; exact hr2
        · rw [hr]
          intro g hg e
          injection hg with hg
          injection e with e
          have h1 : g1 = g := hg
          have h2 : g2 = g := e
          omega
        · rw [hW, hr, hv1, hv2]; rfl
      have HW : Hid _ := hW
      have hs1 : v1.oneCell' = true := by rw [hv1]; rfl
      have hs2 : v2.oneCell' = true := by rw [hv2]; rfl
      have HV : Hid (v1 = _ ∧ v2 = _) := ⟨hv1, hv2⟩
      clear hF3 hb3 hR c0 c1 c2 c3 c4 hr1 hr2 hgg hr hW hlt3
      rw [hv1, hv2] at HW ⊢
      clear hv1 hv2 HV hs1 hs2
      go_wp2
      rw [← HW.out]
      go_roundw
      case rel => exact ⟨j + 1, cs ++ [r], by omega, by go_num, HP.out⟩
      case measure => simp [intOf]; omega
    · obtain rfl : j = n := by omega
      have HD : Hid (OLs wr w.heap.size (.slice (some ⟨w.heap.size, 0, none⟩) j j) s cs ∧ (∀ a q, (slv nilV (wvO cs) (dvO cs) a).ownBlock = some q → q < wr.heap.size) ∧ Below w.heap.size w wr) :=
        ⟨hR.out.ols HN.out.1, hR.out.slt (by rw [HN.out.1]; exact Nat.le_refl _), hR.out.bl⟩
      clear hR
      go_wp2
      go_returns
      exact ⟨w.heap.size, cs, rfl, HD.out⟩

end Go.Proofs.Ytcfjanignfbidaa
