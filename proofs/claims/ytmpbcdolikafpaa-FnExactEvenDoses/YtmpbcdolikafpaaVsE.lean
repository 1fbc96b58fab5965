/- Proved here: a result of three cells that is stored. (And ahead of it: Proved here: an evening of doses in the model's memory. (And ahead of it: Proved here: EvenDoses of the program.)) -/
import Derived.Test.YtmpbcdolikafpaaEvI
import Derived.Test.YtmpbcdolikafpaaDeI
import Derived.Test.YtmpbcdolikafpaaEvC
import Derived.Maps.AppendAt
import Derived.Deep.AppendLies
namespace Go.Proofs.Ytmpbcdolikafpaa
open Go.RowKit
set_option linter.unusedVariables false
set_option linter.unusedSimpArgs false

theorem eo_ok (hH : HeightsOk) (hE : EdgesOk) {l : List Sh} {x : Wt} {z : Int} (hw : weF l x z = 0) : EoOk l x z := by
  intro V v hv
  have hws := weF_good hw
  have hgd := spR_good hws.1
  have hsh := shF_good (wsF_good hws.1).2
  have hfb := frF_box hgd.2.1
  have hlb : ∀ q ∈ boxesH l, q.x0 < q.x1 := fun q hq => by
    obtain ⟨s, hs, rfl⟩ := List.mem_map.1 hq
    exact (bfK_ok (hsh.2 s hs).1).1
  refine (impl_eo hH hE l x z hgd.1.1 hlb (by omega) hv).mono ?_
  rintro e w' ⟨q1, q2, q3, q4, p, T1, za, zn, zc, rfl, hx, hb⟩
  refine ⟨q1, q2, q3, q4, rfl, ?_, hb⟩
  obtain ⟨x1, x2, x3, x4, x5, x6⟩ := hx.out
  rw [hgd.2.2.2.2.2] at x3 x5
  have hcu : Cu w' q1 q2 q3 q4 p T1 (.slice za zn zc) x.f x.o x.s x.r.toNat z := ⟨x1, x2, x3, x4, x5⟩
  intro U u t hU hbx hdr hrg
  have htl : t.length ≤ 40 := by
    have := congrArg List.length hbx
    unfold bxS at this
    rw [List.length_map, List.length_map] at this
    have := hgd.1.1
    omega
  have hce : cntB l x.f = cntB t x.f := by unfold cntB; rw [hbx]
  have hcs : ∀ k, k < (cntB l x.f).length → InF x.f (bat (cntB l x.f) k) := fun k hk => cnt_inF l x.f _ (by rw [bat_get hk]; exact List.getElem_mem hk)
  have := impl_ec t x.f x.o x.s x.r.toNat z (cntB l x.f) htl hdr hgd.2.1 hgd.2.2.1 hgd.2.2.2.1 hgd.2.2.2.2.1 hws.2 (cnt_len hgd.1.1) hcs (RB.below x6 hU) (hcu.below hU) hrg
  rw [hce, cnt_er t _ z (show x.f.x1 = x.f.x0 + ((wdN x.f : Nat) : Int) by unfold wdN; omega) (show x.f.y1 = x.f.y0 + ((htN x.f : Nat) : Int) by unfold htN; omega)] at this
  exact this
theorem impl_even (hH : HeightsOk) (hE : EdgesOk) (l : List Sh) (x : Wt) (z r : Int) {w : World} {v : Value} (hn : l.length ≤ 1048576) (h : RG 5 shC w v l) :
    Calls Try.prog 8 #[v, .agg #[.int .i64 x.f.x0, .int .i64 x.f.y0, .int .i64 x.f.x1, .int .i64 x.f.y1, .int .i64 x.o, .int .i64 x.s, .int .i64 x.r], .int .i64 z, .int .i64 r] w fun e w' => ∃ sv ev, e = .returned (.agg #[.int .i64 (evC l x z r), sv, ev]) ∧ OG 48 5 shC w' w.heap.size sv (evL l x z r) ∧ IS w' w.heap.size ev (evE l x z r) ∧ Below w.heap.size w w' :=
  impl_ev l x z r (eo_ok hH hE) hn h

end Go.Proofs.Ytmpbcdolikafpaa

namespace Go.Proofs.Ytmpbcdolikafpaa
open Go.RowKit Go.Maps
set_option linter.unusedVariables false
set_option linter.unusedSimpArgs false

theorem setD_back {L : List Sh} {k : Nat} (hk : k < L.length) (d : Int) : setD (setD L k d) k (-d) = L := by
  have e1 : shA (setD L k d) k = ⟨(shA L k).b, (shA L k).d + d⟩ := by
    rw [shA_get (by rw [setD_len]; exact hk)]
    simp [setD]
  have e2 : setD (setD L k d) k (-d) = (L.set k ⟨(shA L k).b, (shA L k).d + d⟩).set k ⟨(shA L k).b, (shA L k).d + d + -d⟩ := by
    rw [setD, e1]; rfl
  rw [e2, List.set_set]
  have e3 : (⟨(shA L k).b, (shA L k).d + d + -d⟩ : Sh) = L[k] := by
    rw [← shA_get hk]
    have : (shA L k).d + d + -d = (shA L k).d := by omega
    rw [this]
  rw [e3]
  exact List.set_getElem_self hk
theorem lstE_snoc (es : List Int) (e : Int) : lstE (es ++ [e]) = e := by unfold lstE; simp
/-- The shots, the errors, what is answered. -/
structure EM (B kb n g c : Nat) (ev : Value) (S : EvS) (V : World) : Prop where
  ln : OG 48 5 shC V B (.slice (some ⟨g, 0, none⟩) n c) S.1
  kb_ : V.heap[kb]? = some (.cells #[.int .i64 0, .slice none 0 0, ev] 31)
  er : IS V B ev S.2
  d1 : B ≤ kb ∧ g ≠ kb
  d2 : ∀ h, ev.ownBlock = some h → h ≠ kb ∧ h ≠ g
theorem EM.next {B kb n g c : Nat} {ev : Value} {S : EvS} {V V' : World} (h : EM B kb n g c ev S V) (hb : Below V.heap.size V V') : EM B kb n g c ev S V' :=
  ⟨OG.below h.ln hb, (hb.block _ (ltOf h.kb_)).trans h.kb_, h.er.bel hb, h.d1, h.d2⟩
theorem EM.nl {B kb n g c : Nat} {ev : Value} {S : EvS} {V : World} (h : EM B kb n g c ev S V) : n = S.1.length := og_len h.ln
/-- A dose is turned. -/
theorem EM.set {B kb n g c k : Nat} {ev : Value} {S : EvS} {V : World} (h : EM B kb n g c ev S V) (hk : k < S.1.length) (d : Int) : EM B kb n g c ev (setD S.1 k d, S.2) (V.setCell ⟨g, k * 5 + 4, none⟩ (.int .i64 ((shA S.1 k).d + d))) := by
  refine ⟨og_setD h.ln hk d, ?_, ?_, h.d1, h.d2⟩
  · rw [heap_setCell_other _ _ _ _ (by simp; exact fun e => h.d1.2 e.symm)]; exact h.kb_
  · exact h.er.kept (fun q hq => heap_setCell_other _ _ _ _ (by simp; exact (h.d2 q hq).2))
/-- An error is put behind. -/
theorem EM.push {B kb n g c : Nat} {ev ev' : Value} {S : EvS} {e : Int} {V w5 : World} (h : EM B kb n g c ev S V) (hBV : B ≤ V.heap.size)
    (ho : w5.ownsRow B 2 1 ev' (S.2.length + 1) (S.2.map (Value.int .i64) ++ [.int .i64 e])) (hg : (V.alloc (.cells #[.int .i64 e] 2)).grownBy w5 ev.ownBlock) (hloc : ev'.ownBlock = ev.ownBlock ∨ ev'.ownBlock = some (V.alloc (.cells #[.int .i64 e] 2)).heap.size) :
    EM B kb n g c ev' (S.1, S.2 ++ [e]) (w5.setCell ⟨kb, 2, none⟩ ev') := by
  have hkb := ltOf h.kb_
  have hgl := (OG.lt h.ln g rfl).2
  have q5 : w5.heap[kb]? = some (.cells #[.int .i64 0, .slice none 0 0, ev] 31) := by
    rw [hg.block kb (by simp; omega) (fun e9 => (h.d2 kb e9.symm).1 rfl)]
    exact (Below.heap_alloc _ _ _ hkb).trans h.kb_
  have hne : ∀ q, ev'.ownBlock = some q → q ≠ kb ∧ q ≠ g := fun q hq => by
    rcases hloc with h1 | h1
    · exact h.d2 q (by rw [← h1]; exact hq)
    · rw [h1] at hq
      simp only [Option.some.injEq, World.size_alloc] at hq
      omega
  refine ⟨?_, ?_, ?_, h.d1, hne⟩
  · refine rowKept h.ln (fun q hq => ?_)
    have e9 : g = q := by simpa [Value.ownBlock] using hq
    subst e9
    rw [heap_setCell_other _ _ _ _ (by simp; exact h.d1.2), hg.block g (by simp; omega) (fun e9 => (h.d2 g e9.symm).2 rfl)]
    exact Below.heap_alloc _ _ _ hgl
  · have := heap_setCell_same w5 kb 2 _ _ ev' q5
    simpa using this
  · have h9 : IS w5 B ev' (S.2 ++ [e]) := by
      unfold IS
      rw [List.length_append, List.map_append]
      exact ho
    exact h9.kept (fun q hq => heap_setCell_other _ _ _ _ (by simp; exact (hne q hq).1))

end Go.Proofs.Ytmpbcdolikafpaa

namespace Go.Proofs.Ytmpbcdolikafpaa
open Go.RowKit
set_option linter.unusedVariables false
set_option linter.unusedSimpArgs false

theorem vset3 {w : World} {k : Nat} {a b c a' b' c' : Value} {T : TypeId} (h : w.heap[k]? = some (.cells #[a, b, c] T)) : (((w.setCell ⟨k, 0, none⟩ a').setCell ⟨k, 1, none⟩ b').setCell ⟨k, 2, none⟩ c').heap[k]? = some (.cells #[a', b', c'] T) := by
  have h1 := heap_setCell_same w k 0 _ _ a' h
  have h2 := heap_setCell_same _ k 1 _ _ b' h1
  have h3 := heap_setCell_same _ k 2 _ _ c' h2
  simpa using h3
theorem vset3_other {w : World} {k j : Nat} {a' b' c' : Value} (h : j ≠ k) : (((w.setCell ⟨k, 0, none⟩ a').setCell ⟨k, 1, none⟩ b').setCell ⟨k, 2, none⟩ c').heap[j]? = w.heap[j]? := by
  rw [heap_setCell_other _ _ _ _ (by simpa using h), heap_setCell_other _ _ _ _ (by simpa using h), heap_setCell_other _ _ _ _ (by simpa using h)]
theorem set3e {w : World} {k : Nat} {a b c a' b' c' : Value} {T : TypeId} (h : w.heap[k]? = some (.cells #[a, b, c] T)) :
    (w.setCell ⟨k, 0, none⟩ a').cell? ⟨k, 0, none⟩ = some a' ∧ ((w.setCell ⟨k, 0, none⟩ a').setCell ⟨k, 1, none⟩ b').cell? ⟨k, 0, none⟩ = some a' ∧ ((w.setCell ⟨k, 0, none⟩ a').setCell ⟨k, 1, none⟩ b').cell? ⟨k, 1, none⟩ = some b' ∧
    (((w.setCell ⟨k, 0, none⟩ a').setCell ⟨k, 1, none⟩ b').setCell ⟨k, 2, none⟩ c').cell? ⟨k, 0, none⟩ = some a' ∧ (((w.setCell ⟨k, 0, none⟩ a').setCell ⟨k, 1, none⟩ b').setCell ⟨k, 2, none⟩ c').cell? ⟨k, 1, none⟩ = some b' ∧ (((w.setCell ⟨k, 0, none⟩ a').setCell ⟨k, 1, none⟩ b').setCell ⟨k, 2, none⟩ c').cell? ⟨k, 2, none⟩ = some c' := by
  have h1 := heap_setCell_same w k 0 _ _ a' h
  have h2 := heap_setCell_same _ k 1 _ _ b' h1
  have h3 := heap_setCell_same _ k 2 _ _ c' h2
  refine ⟨?_, ?_, ?_, ?_, ?_, ?_⟩
  · simp [World.cell?, h1]
  · simp [World.cell?, h2]
  · simp [World.cell?, h2]
  · simp [World.cell?, h3]
  · simp [World.cell?, h3]
  · simp [World.cell?, h3]
theorem set3b {w : World} {k : Nat} {a' b' c' : Value} {B : Nat} {w0 : World} (h : Below B w0 w) (hk : B ≤ k) : Below B w0 (((w.setCell ⟨k, 0, none⟩ a').setCell ⟨k, 1, none⟩ b').setCell ⟨k, 2, none⟩ c') :=
  ((h.setCell hk _).setCell hk _).setCell hk _

end Go.Proofs.Ytmpbcdolikafpaa
