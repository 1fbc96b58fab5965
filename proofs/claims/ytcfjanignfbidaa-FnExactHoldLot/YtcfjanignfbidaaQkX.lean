/- Proved here: books that are read, none of whose lists is nil with room. No condition. -/
import Derived.Test.YtcfjanignfbidaaQlT
namespace Go.Proofs.Ytcfjanignfbidaa
open Go.RowKit Go.Maps
set_option linter.unusedVariables false
set_option linter.unusedSimpArgs false

/-- Not nil with room. -/
def NC (v : Value) : Prop := ∀ n c, v = .slice none n c → n = 0 ∧ c = 0
theorem OG.nc {α : Type} {T k : Nat} {enc : α → List Value} {w : World} {B : Nat} {v : Value} {s : List α} (h : OG T k enc w B v s) : NC v := by
  intro n c e
  rcases h.2 with ⟨h1, _⟩ | ⟨g, cap, cur, h1, _⟩
  · rw [h1] at e; injection e with _ e1 e2; exact ⟨e1.symm, e2.symm⟩
  · rw [h1] at e; injection e with e1; cases e1
theorem IS.nc {w : World} {B : Nat} {v : Value} {s : List Int} (h : IS w B v s) : NC v := OG.nc (og_is.2 h)
def RXo (w : World) (v : Value) (s : List Lo) : Prop := ∃ rs, RG 5 lrC w v rs ∧ RelLo w rs s ∧ ∀ j (h : j < rs.length), NC rs[j].wv ∧ NC rs[j].dv
theorem RXo.rlo {w : World} {v : Value} {s : List Lo} (h : RXo w v s) : RLo w v s := by
  obtain ⟨rs, h1, h2, _⟩ := h; exact ⟨rs, h1, h2⟩
theorem RXo.below {w w' : World} {v : Value} {s : List Lo} (h : RXo w v s) (hb : Below w.heap.size w w') : RXo w' v s := by
  obtain ⟨rs, h1, h2, h3⟩ := h; exact ⟨rs, h1.below hb, h2.below hb, h3⟩
theorem RXo.at {w : World} {v : Value} {s : List Lo} (h : RXo w v s) {j : Nat} (hj : j < s.length) : ∃ g o c, v = .slice (some ⟨g, o, none⟩) s.length c ∧ g < w.heap.size ∧ ∃ r : Lr, Lr1 w r s[j] ∧ (NC r.wv ∧ NC r.dv) ∧ w.cell? ⟨g, o + j * 5, none⟩ = some (.int .i64 r.id) ∧ w.cell? ⟨g, o + j * 5 + 1, none⟩ = some (.int .i64 r.pa) ∧ w.cell? ⟨g, o + j * 5 + 2, none⟩ = some (.slice r.wa r.wn r.wc) ∧ w.cell? ⟨g, o + j * 5 + 3, none⟩ = some (.bool r.hd) ∧ w.cell? ⟨g, o + j * 5 + 4, none⟩ = some (.slice r.da r.dn r.dc) := by
  obtain ⟨rs, h1, h2, h3⟩ := h
  have hl := h2.len
  obtain ⟨g, o, c, rfl, hg, hc⟩ := h1.pos (by omega)
  exact ⟨g, o, c, by rw [hl], hg, rs[j], h2.at_ j (by omega) hj, h3 j (by omega), lrC_at (hc j (by omega))⟩
structure RdX (w : World) (vw vl vs : Value) (b : Bk) : Prop where
  wn : RG 3 wdC w vw b.wn
  nw : NC vw
  ls : RXo w vl b.ls
  sc : RdI w vs b.sc
  ns : NC vs
theorem RdX.rd {w : World} {vw vl vs : Value} {b : Bk} (h : RdX w vw vl vs b) : RdBk w vw vl vs b := ⟨h.wn, h.ls.rlo, h.sc⟩
theorem RdX.below {w w' : World} {vw vl vs : Value} {b : Bk} (h : RdX w vw vl vs b) (hb : Below w.heap.size w w') : RdX w' vw vl vs b := ⟨h.wn.below hb, h.nw, h.ls.below hb, h.sc.below hb, h.ns⟩
theorem PB.rx {V : World} {B : Nat} {vw vl vs : Value} {b : Bk} {rs : List Lr} (h : PB V B vw vl vs (wvO rs) b rs) : RdX V vw vl vs b :=
  ⟨OG.rg wdC_len h.wn, OG.nc h.wn, ⟨rs, OG.rg lrC_len h.row, ⟨h.len, fun j h1 h2 => ⟨(h.nm j h1 h2).1, (h.nm j h1 h2).2.1, (h.nm j h1 h2).2.2, by have := (h.ws j h2).rg; rw [wvO_lt h1] at this; exact this, (h.dn j h1 h2).rg⟩⟩, fun j h1 => ⟨by have := (h.ws j (by rw [← h.len]; exact h1)).nc; rw [wvO_lt h1] at this; exact this, (h.dn j h1 (by rw [← h.len]; exact h1)).nc⟩⟩, h.sc.rg, h.sc.nc⟩
theorem OBk.rx {V : World} {B : Nat} {vw vl vs : Value} {b : Bk} (h : OBk V B vw vl vs b) : RdX V vw vl vs b := by
  obtain ⟨rs, h⟩ := h; exact h.rx

end Go.Proofs.Ytcfjanignfbidaa
