/- Proved here: defectsByDie of the program: a map from dice to the defects in them. -/
import Derived.Test.YtjacmneopijiaaaVbM
import Derived.Test.YtjacmneopijiaaaAddFrac
import Derived.Test.YtjacmneopijiaaaFloat
import Derived.Deep.AppendLies
import Derived.Deep.DeepCutAuto
namespace Go.Proofs.Ytjacmneopijiaaa
open Go.RowKit Go.Maps
set_option linter.unusedVariables false
set_option linter.unusedSimpArgs false

theorem dk_zero (w : World) : (zeroValue 25).run Try.prog w = .ok (.slice none 0 0) w := by kernel_rfl
theorem dk_make (w : World) : (Instr.makeMap 99 none).run Try.prog w = .ok (.map (some w.heap.size)) (w.alloc (.map #[] 0)) := by
  have h := run_underlying Try.underlying99 w
  simp [Instr.makeMap, h]
/-- The defects of the first j, by dice: a map in block B. -/
def DBD (w : World) (B : Nat) (s : List Dft) (p : Int) (j : Nat) : Prop := ∃ n f, n ≤ j ∧ GM 41 4 vdC w 104 B (B + 1) n f (vbL (s.take j) p) ∧ ∀ kl u, f kl = some u → vbL (s.take j) p kl ≠ []
theorem DBD.below {w w' : World} {B j : Nat} {s : List Dft} {p : Int} (h : DBD w B s p j) (hb : Below w.heap.size w w') : DBD w' B s p j := by
  obtain ⟨n, f, hn, hg, hne⟩ := h
  exact ⟨n, f, hn, hg.below hb, hne⟩
theorem gm_conv15 {α : Type} {T sz : Nat} {enc : α → List Value} {w : World} {k : TypeId} {b lo n : Nat} {f : Lit → Option Sv} {L L' : Lit → List α} (h : GM T sz enc w k b lo n f L) (e : ∀ q, L q = L' q) : GM T sz enc w k b lo n f L' := by
  have : L = L' := funext e
  subst this; exact h
theorem dbd_push {w V V2 w1 w2 w3 : World} {B j n0 c0 nn : Nat} {s : List Dft} {p : Int} {a0 : Option Addr} {f : Lit → Option Sv} {d : Dft} {s3 : Sv}
    (hG : GM 41 4 vdC V 104 B (B + 1) nn f (vbL (s.take j) p)) (hnn : nn ≤ j) (hne0 : ∀ kl u, f kl = some u → vbL (s.take j) p kl ≠ []) (hj : j < s.length) (hd : d = s[j]) (hs : (f (vpk p d)).getD svN = (a0, n0, c0))
    (hB : Below B w V) (hB1 : B + 1 ≤ V.heap.size) (hV2 : V2 = V.alloc (.cells #[.int .i64 d.x, .int .i64 d.y, .int .i64 d.z, .int .i64 d.k] 41)) (hg1 : V2.grownBy w1 (some B)) (hz1 : w1.heap.size = V2.heap.size)
    (hown : w2.ownsRow (B + 1) 41 4 s3.v (n0 + 1) ((vbL (s.take j) p (vpk p d)).flatMap vdC ++ [.int .i64 d.x, .int .i64 d.y, .int .i64 d.z, .int .i64 d.k])) (hgrow : w1.grownBy w2 (Value.slice a0 n0 c0).ownBlock) (hloc : s3.v.ownBlock = (Value.slice a0 n0 c0).ownBlock ∨ s3.v.ownBlock = some w1.heap.size)
    (hT3 : TM w3 104 B (nn + 1) (updF f (vpk p d) (some s3))) (hg3 : w2.grownBy w3 (some B)) :
    DBD w3 B s p (j + 1) ∧ Below B w w3 ∧ B + 1 ≤ w3.heap.size := by
  have e0 : ((f (vpk p d)).getD svN).v = .slice a0 n0 c0 := by rw [hs]
  have hog := hG.at (vpk p d) rfl
  rw [e0] at hog
  have hl : n0 = (vbL (s.take j) p (vpk p d)).length := by
    obtain ⟨_, _, e9⟩ := (OG.rg vdC_len hog).form
    injection e9
  have hlow : ∀ g, (Value.slice a0 n0 c0).ownBlock = some g → B + 1 ≤ g := fun g hg => (OG.lt hog g hg).1
  have hlt : ∀ g, (Value.slice a0 n0 c0).ownBlock = some g → g < V.heap.size := fun g hg => (OG.lt hog g hg).2
  have hVV2 : ∀ q, q < V.heap.size → V2.heap[q]? = V.heap[q]? := fun q hq => by rw [hV2]; exact Below.heap_alloc _ _ _ hq
  have hs2 : V.heap.size < V2.heap.size := by rw [hV2]; simp
  -- the map's own block is B all along; the lists lie apart from it
  have nb : ∀ {w9 : World} {v : Value} {x : List Dft}, OG 41 4 vdC w9 (B + 1) v x → ∀ g, v.ownBlock = some g → g ≠ B := fun {w9 v x} ho g hg => by have := (OG.lt ho g hg).1; omega
  have apart : ∀ q u, q ≠ vpk p d → f q = some u → u.v.ownBlock = none ∨ u.v.ownBlock ≠ (Value.slice a0 n0 c0).ownBlock := by
    intro q u hq hu
    cases hf : f (vpk p d) with
    | none =>
      rw [hf] at hs
      simp only [Option.getD_none, svN, Prod.mk.injEq] at hs
      obtain ⟨rfl, rfl, rfl⟩ := hs
      cases u.v.ownBlock <;> simp [Value.ownBlock]
    | some u2 =>
      have h9 := hG.ap q (vpk p d) u u2 hq hu hf
      rw [hf] at e0
      simp only [Option.getD_some] at e0
      rw [e0] at h9
      exact h9
  have keep : ∀ q u, q ≠ vpk p d → f q = some u → OG 41 4 vdC w3 (B + 1) u.v (vbL (s.take j) p q) := by
    intro q u hq hu
    have ho := hG.own q u hu
    refine ownsRow_keep ho (fun g hg => ?_)
    have hgl := OG.lt ho g hg
    have hgB : g ≠ B := by omega
    have h1 : V2.heap[g]? = V.heap[g]? := hVV2 g hgl.2
    have h2 : w1.heap[g]? = V2.heap[g]? := hg1.block g (by omega) (fun e => by injection e with e; exact hgB e)
    have h3 : w2.heap[g]? = w1.heap[g]? := hgrow.block g (by omega) (fun e => by
      rcases apart q u hq hu with h9 | h9
      · rw [h9] at hg; cases hg
      · exact h9 (by rw [hg]; exact e))
    have h4 : w3.heap[g]? = w2.heap[g]? := hg3.block g (by have := hgrow.size; omega) (fun e => by injection e with e; exact hgB e)
    rw [h4, h3, h2, h1]
  have hnew : OG 41 4 vdC w2 (B + 1) s3.v (vbL (s.take j) p (vpk p d) ++ [d]) := by
    unfold OG
    rw [List.length_append, List.flatMap_append, ← hl]
    simpa [vdC] using hown
  have hnew3 : OG 41 4 vdC w3 (B + 1) s3.v (vbL (s.take j) p (vpk p d) ++ [d]) := og_keep hnew hg3 (by
    cases hv : s3.v.ownBlock with
    | none => exact Or.inl rfl
    | some g => exact Or.inr (fun e => by injection e with e; have := (OG.lt hnew g hv).1; omega))
  have newApart : ∀ q u, q ≠ vpk p d → f q = some u → u.v.ownBlock = none ∨ u.v.ownBlock ≠ s3.v.ownBlock := by
    intro q u hq hu
    rcases hloc with h1 | h1
    · rw [h1]; exact apart q u hq hu
    · cases hx : u.v.ownBlock with
      | none => exact Or.inl rfl
      | some gx =>
        refine Or.inr (fun e => ?_)
        rw [h1] at e; cases e
        have := (OG.lt (hG.own q u hu) _ hx).2
        omega
  have hk : WideAt.IsKeyLit (vpk p d) := pk_lit _ _
  refine ⟨⟨nn + 1, _, by omega, gm_conv15 (L := fun q => if q.sameKey (vpk p d) then vbL (s.take j) p (vpk p d) ++ [d] else vbL (s.take j) p q) ⟨hT3, fun q u hu => ?_, fun q hq => ?_, fun k1 k2 u1 u2 hne h1 h2 => ?_, Nat.lt_succ_self _⟩ (fun q => by rw [hd]; exact vbL_succ hj p q), fun q u hu => ?_⟩, ?_, ?_⟩
  · by_cases e : q = vpk p d
    · subst e
      rw [updF_same _ hk] at hu; cases hu
      simp only [pk_same, vpk, if_true]
      exact hnew3
    · rw [updF_other e] at hu
      rw [if_neg (by rw [Maps.sameKey_ne e]; exact Bool.false_ne_true)]
      exact keep q u e hu
  · by_cases e : q = vpk p d
    · subst e; rw [updF_same _ hk] at hq; cases hq
    · rw [updF_other e] at hq
      rw [if_neg (by rw [Maps.sameKey_ne e]; exact Bool.false_ne_true)]
      exact hG.no q hq
  · by_cases e1 : k1 = vpk p d
    · subst e1
      have e2 : k2 ≠ vpk p d := fun e => hne e.symm
      rw [updF_same _ hk] at h1; cases h1
      rw [updF_other e2] at h2
      rcases newApart k2 u2 e2 h2 with h3 | h3
      · rw [h3]; cases s3.v.ownBlock <;> simp
      · exact Or.inr (fun e => h3 e.symm)
    · rw [updF_other e1] at h1
      by_cases e2 : k2 = vpk p d
      · subst e2
        rw [updF_same _ hk] at h2; cases h2
        exact newApart k1 u1 e1 h1
      · rw [updF_other e2] at h2
        exact hG.ap k1 k2 u1 u2 hne h1 h2
  · rw [← vbL_succ hj p q]
    by_cases e : q = vpk p s[j]
    · subst e
      rw [if_pos (show (vpk p s[j]).sameKey (vpk p s[j]) = true from pk_same _ _)]
      simp
    · rw [if_neg (by rw [Maps.sameKey_ne e]; exact Bool.false_ne_true)]
      rw [hd, updF_other e] at hu
      exact hne0 q u hu
  · have hB2 : Below B w V2 := by rw [hV2]; exact hB.alloc (by omega) _
    have hB1' : Below B w w1 := hB2.grown hg1 (by omega) (fun g hg => by injection hg with hg; omega)
    have hB2' : Below B w w2 := hB1'.grown hgrow (by omega) (fun g hg => by have := hlow g hg; omega)
    exact hB2'.grown hg3 (by have := hgrow.size; omega) (fun g hg => by injection hg with hg; omega)
  · have := hgrow.size; have := hg3.size; omega

set_option maxRecDepth 10000 in
set_option maxHeartbeats 25600000 in
theorem impl_dbd {W : World} {v : Value} {s : List Dft} {p : Int} (hn : s.length ≤ 60) (hok : ∀ d ∈ s, Vok d) (hp : 1 ≤ p ∧ p ≤ 1000) (h : RG 4 vdC W v s) :
    Calls Try.prog 59 #[v, .int .i64 p] W fun e w' => e = .returned (.map (some W.heap.size)) ∧ DBD w' W.heap.size s p s.length ∧ Below W.heap.size W w' := by
  obtain ⟨a, c, rfl⟩ := h.form
  obtain ⟨n, hnn⟩ : ∃ n, n = s.length := ⟨_, rfl⟩
  rw [← hnn] at h hn ⊢
  have H : Hid (RG 4 vdC W (.slice a n c) s ∧ n = s.length ∧ ∀ d ∈ s, Vok d) := ⟨h, hnn, hok⟩
  clear h hnn hok
  have hmk := dk_make
  obtain ⟨B, hB⟩ : ∃ B, B = W.heap.size := ⟨_, rfl⟩
  obtain ⟨V0, hV0⟩ : ∃ V, V = W.alloc (.map #[] 0) := ⟨_, rfl⟩
  have HS0 : Hid (DBD V0 B s p 0 ∧ Below B W V0 ∧ B + 1 ≤ V0.heap.size) := by
    rw [hV0, hB]
    exact ⟨⟨0, fun _ => none, Nat.le_refl _, gm_conv15 (GM.made 41 4 vdC W 104) (fun q => rfl), fun _ _ h9 => (by cases h9)⟩, by (repeat' (first | (with_reducible exact Below.refl _ _) | (with_reducible assumption) | (with_reducible refine Below.setCell ?_ ?_ _) | (with_reducible refine Below.alloc ?_ ?_ _) | (with_reducible refine below_drewN ?_ _) | (with_reducible refine Below.drew ?_) | (with_reducible exact Nat.le_refl _) | omega | (simp; done) | (simp; omega))), by simp⟩
  have HV0 : Hid (V0 = W.alloc (.map #[] 0) ∧ B = W.heap.size) := ⟨hV0, hB⟩
  have HBB : Hid (B = W.heap.size) := hB
  rw [← hB]
  clear hV0 hB
  go_enter Try.func59, Try.ntmps59
  go_wp2
  rw [← HV0.out.1, ← HV0.out.2]
  clear HV0 hmk
  obtain ⟨i0, hi0, hz0, hz1, hz2⟩ := info_parts info_Defect
  go_loopw [12] (fun i wr => ∃ j : Nat, j ≤ n ∧ i = .int .i64 j ∧ Hid (DBD wr B s p j ∧ Below B W wr ∧ B + 1 ≤ wr.heap.size)) (fun i _ => n - (intOf i).toNat)
  case atStart => exact ⟨0, Nat.zero_le _, rfl, HS0.out⟩
  case round =>
    clear HS0
    obtain ⟨j, hj, rfl, hR⟩ := hrel
    by_cases hlt : j < n
    · have hjl : j < s.length := by rw [← H.out.2.1]; exact hlt
      have hBW : Below W.heap.size W wr := by rw [← HBB.out]; exact hR.out.2.1
      obtain ⟨g, o, c2, he, hg, hjc⟩ := (H.out.1.below hBW).pos (by omega)
      simp only [Value.slice.injEq] at he
      obtain ⟨rfl, hx1, hx2⟩ := he
      clear hx1 hx2
      obtain ⟨c0, c1, c2', c3⟩ := vdC_at (hjc j hjl)
      obtain ⟨d, hd⟩ : ∃ d, d = s[j] := ⟨_, rfl⟩
      rw [← hd] at c0 c1 c2' c3
      have hdk : Vok d := by rw [hd]; exact H.out.2.2 _ (List.getElem_mem _)
      have HXB : Hid ((0 ≤ vX p d ∧ vX p d ≤ 10000) ∧ (0 ≤ vY p d ∧ vY p d ≤ 10000)) := ⟨vX_bd hp.1 hdk, vY_bd hp.1 hdk⟩
      obtain ⟨X, hX⟩ : ∃ X, X = d.x.tdiv p := ⟨_, rfl⟩
      obtain ⟨Y, hY⟩ : ∃ Y, Y = d.y.tdiv p := ⟨_, rfl⟩
      have HXY : Hid (X = vX p d ∧ Y = vY p d) := ⟨hX, hY⟩
      have hp0 : (p == 0) = false := by simp; omega
      have hp1 : ¬ p = 0 := by omega
      have hxw : IntKind.i64.wrap (d.x.tdiv p) = X := by rw [← hX, IntKind.wrap_i64]; have := HXB.out.1; have := HXY.out.1; omega
      have hyw : IntKind.i64.wrap (d.y.tdiv p) = Y := by rw [← hY, IntKind.wrap_i64]; have := HXB.out.2; have := HXY.out.2; omega
      have HD : Hid (d = s[j]) := hd
      have HRR : Hid (DBD wr B s p j ∧ Below B W wr ∧ B + 1 ≤ wr.heap.size) := hR.out
      obtain ⟨V, hV⟩ : ∃ V, V = wr.alloc (.cells #[.int .i64 d.x, .int .i64 d.y, .int .i64 d.z, .int .i64 d.k] 41) := ⟨_, rfl⟩
      obtain ⟨kd, hkd⟩ : ∃ k, k = wr.heap.size := ⟨_, rfl⟩
      have qd : V.heap[kd]? = some (.cells #[.int .i64 d.x, .int .i64 d.y, .int .i64 d.z, .int .i64 d.k] 41) := by rw [hV, hkd]; exact heap_alloc_new wr _
      have bV : Below wr.heap.size wr V := by rw [hV]; (repeat' (first | (with_reducible exact Below.refl _ _) | (with_reducible assumption) | (with_reducible refine Below.setCell ?_ ?_ _) | (with_reducible refine Below.alloc ?_ ?_ _) | (with_reducible refine below_drewN ?_ _) | (with_reducible refine Below.drew ?_) | (with_reducible exact Nat.le_refl _) | omega | (simp; done) | (simp; omega)))
      have HV : Hid (V = wr.alloc (.cells #[.int .i64 d.x, .int .i64 d.y, .int .i64 d.z, .int .i64 d.k] 41) ∧ kd = wr.heap.size) := ⟨hV, hkd⟩
      have HQD : Hid (V.heap[kd]? = some (.cells #[.int .i64 d.x, .int .i64 d.y, .int .i64 d.z, .int .i64 d.k] 41) ∧ Below wr.heap.size wr V) := ⟨qd, bV⟩
      clear hjc hd hdk hV hkd bV hBW hR
      have b0 : (0 : Int) ≤ (j : Int) := by omega
      have b1 : (j : Int) < (n : Int) := by omega
      go_wp2_with (fail)
      rw [← HV.out.1, ← HV.out.2]
      clear HV c0 c1 c2' c3 hg
      have x0 : V.cell? ⟨kd, 0, none⟩ = some (.int .i64 d.x) := cellOf qd 0 rfl
      have x1 : V.cell? ⟨kd, 1, none⟩ = some (.int .i64 d.y) := cellOf qd 1 rfl
      have xl := ltOf qd
      clear qd
      refine wp_region_float (by kernel_rfl) (fun hS => ?_)
      refine fl_take (i := 0) (d := 16) (v := .pointer (some ⟨kd, 0, none⟩)) rfl rfl rfl (by kernel_rfl) (by kernel_rfl) (by kernel_rfl) hS ?_ ?_
      · intro w' hk; go_simp
      simp only [Act.put, List.setIfInBounds_toArray, List.set_cons_zero, List.set_cons_succ]
      refine fl_take (i := 1) (d := 17) (v := .int .i64 d.x) rfl rfl rfl (by kernel_rfl) (by kernel_rfl) (by kernel_rfl) hS ?_ ?_
      · intro w' hk; go_simp
      simp only [Act.put, List.setIfInBounds_toArray, List.set_cons_zero, List.set_cons_succ]
      refine fl_take (i := 2) (d := 18) (v := .int .i64 p) rfl rfl rfl (by kernel_rfl) (by kernel_rfl) (by kernel_rfl) hS ?_ ?_
      · intro w' hk; go_simp
      simp only [Act.put, List.setIfInBounds_toArray, List.set_cons_zero, List.set_cons_succ]
      refine fl_take (i := 3) (d := 19) (v := .int .i64 X) rfl rfl rfl (by kernel_rfl) (by kernel_rfl) (by kernel_rfl) hS ?_ ?_
      · intro w' hk; go_simp
      simp only [Act.put, List.setIfInBounds_toArray, List.set_cons_zero, List.set_cons_succ]
      refine fl_take (i := 4) (d := 20) (v := .pointer (some ⟨kd, 1, none⟩)) rfl rfl rfl (by kernel_rfl) (by kernel_rfl) (by kernel_rfl) hS ?_ ?_
      · intro w' hk; go_simp
      simp only [Act.put, List.setIfInBounds_toArray, List.set_cons_zero, List.set_cons_succ]
      refine fl_take (i := 5) (d := 21) (v := .int .i64 d.y) rfl rfl rfl (by kernel_rfl) (by kernel_rfl) (by kernel_rfl) hS ?_ ?_
      · intro w' hk; go_simp
      simp only [Act.put, List.setIfInBounds_toArray, List.set_cons_zero, List.set_cons_succ]
      refine fl_take (i := 6) (d := 22) (v := .int .i64 p) rfl rfl rfl (by kernel_rfl) (by kernel_rfl) (by kernel_rfl) hS ?_ ?_
      · intro w' hk; go_simp
      simp only [Act.put, List.setIfInBounds_toArray, List.set_cons_zero, List.set_cons_succ]
      refine fl_take (i := 7) (d := 23) (v := .int .i64 Y) rfl rfl rfl (by kernel_rfl) (by kernel_rfl) (by kernel_rfl) hS ?_ ?_
      · intro w' hk; go_simp
      simp only [Act.put, List.setIfInBounds_toArray, List.set_cons_zero, List.set_cons_succ]
      refine fl_take (i := 8) (d := 24) (v := .agg #[.int .i64 X, .int .i64 Y]) rfl rfl rfl (by kernel_rfl) (by kernel_rfl) (by kernel_rfl) hS ?_ ?_
      · intro w' hk; go_simp
      simp only [Act.put, List.setIfInBounds_toArray, List.set_cons_zero, List.set_cons_succ]
      refine float_pend (z := #[.int .i64 0, .int .i64 0]) (T := 104) (ja := 9) (js := 10) rfl rfl rfl rfl rfl (fun a w => by go_simp) [] _ _ _ (fun _ => False) (by kernel_rfl) (by kernel_rfl) ?_ (Nat.le_refl _) (fun _ h => h.elim) hS
      unfold Fl
      refine after_store ?_ _ _ _ #[.int .i64 X, .int .i64 Y] (by rfl) (by rfl) (fun _ => by rfl) (fun _ => by rfl) (by simp) (by kernel_rfl) (by simp [Value.oneCell']) ?_
      · exact Nat.le_refl _
      intro K7 V7 hK hk1 hk2 hF hoth hsz hcell
      simp only [Act.put, List.setIfInBounds_toArray, List.set_cons_zero, List.set_cons_succ]
      refine NoPanic.normal ?_
      have hb7 : Below V.heap.size V V7 := hK.2
      have s0 : V7.cell? ⟨K7, 0, none⟩ = some (.int .i64 X) := hcell 0 _ rfl
      have s1 : V7.cell? ⟨K7, 1, none⟩ = some (.int .i64 Y) := hcell 1 _ rfl
      have qd := (hb7.block _ (ltOf HQD.out.1)).trans HQD.out.1
      have d0 : V7.cell? ⟨kd, 0, none⟩ = some (.int .i64 d.x) := cellOf qd 0 rfl
      have d1 : V7.cell? ⟨kd, 1, none⟩ = some (.int .i64 d.y) := cellOf qd 1 rfl
      have d2 : V7.cell? ⟨kd, 2, none⟩ = some (.int .i64 d.z) := cellOf qd 2 rfl
      have d3 : V7.cell? ⟨kd, 3, none⟩ = some (.int .i64 d.k) := cellOf qd 3 rfl
      have dl := ltOf qd
      have br7 : Below wr.heap.size wr V7 := HQD.out.2.trans (hb7.mono HQD.out.2.size)
      obtain ⟨nn, f, hnn, hG0, hne0⟩ := HRR.out.1
      have hG := hG0.below br7
      have hB7 : Below B W V7 := HRR.out.2.1.trans (br7.mono (by have := HRR.out.2.2; omega))
      have hB71 : B + 1 ≤ V7.heap.size := by have := br7.size; have := HRR.out.2.2; omega
      obtain ⟨V2, hV2⟩ : ∃ V2, V2 = V7.alloc (.cells #[.int .i64 d.x, .int .i64 d.y, .int .i64 d.z, .int .i64 d.k] 41) := ⟨_, rfl⟩
      have bV2 : Below V7.heap.size V7 V2 := by rw [hV2]; (repeat' (first | (with_reducible exact Below.refl _ _) | (with_reducible assumption) | (with_reducible refine Below.setCell ?_ ?_ _) | (with_reducible refine Below.alloc ?_ ?_ _) | (with_reducible refine below_drewN ?_ _) | (with_reducible refine Below.drew ?_) | (with_reducible exact Nat.le_refl _) | omega | (simp; done) | (simp; omega)))
      have hkey : keyOf Try.prog 104 (.agg #[.int .i64 X, .int .i64 Y]) = some (vpk p d) := by
        have h9 := HXB.out
        rw [← HXY.out.1, ← HXY.out.2] at h9
        rw [vpk, ← HXY.out.1, ← HXY.out.2]
        exact pt_key (by omega) (by omega)
      obtain ⟨a0, n0, c0, st, w1, hs, hent, hg1, hz1', hback⟩ := (hG.tm.below bV2).entry pt_law Try.underlying99 dk_zero (by unfold maxLen; omega) hkey
      have e0 : ((f (vpk p d)).getD svN).v = .slice a0 n0 c0 := by rw [hs]
      have hog := hG.at (vpk p d) rfl
      rw [e0] at hog
      have hn0 : n0 = (vbL (s.take j) p (vpk p d)).length := by
        obtain ⟨_, _, e9⟩ := (OG.rg vdC_len hog).form
        injection e9
      have hn1 : n0 ≤ 60 := by
        rw [hn0]
        have h9 := vbL_len (s.take j) p (vpk p d)
        have h8 : (s.take j).length ≤ j := by simp; omega
        omega
      have HOW : Hid (w1.ownsRow (B + 1) 41 4 (.slice a0 n0 c0) n0 ((vbL (s.take j) p (vpk p d)).flatMap vdC)) := by
        have h9 : OG 41 4 vdC w1 (B + 1) (.slice a0 n0 c0) (vbL (s.take j) p (vpk p d)) := og_keep (hog.below bV2) hg1 (by
          cases hv : (Value.slice a0 n0 c0).ownBlock with
          | none => exact Or.inl rfl
          | some gq => exact Or.inr (fun e => by injection e with e; have := (OG.lt hog gq hv).1; omega))
        unfold OG at h9
        rw [← hn0] at h9
        exact h9
      have HNW : Hid (∀ jj u, [.int .i64 d.x, .int .i64 d.y, .int .i64 d.z, .int .i64 d.k][jj]? = some u → w1.cell? ((⟨V7.heap.size, 0, none⟩ : Addr).add jj) = some u) := by
        have hq : w1.heap[V7.heap.size]? = some (.cells #[.int .i64 d.x, .int .i64 d.y, .int .i64 d.z, .int .i64 d.k] 41) := (hg1.block _ (by rw [hV2]; simp) (fun e => by injection e with e; omega)).trans (by rw [hV2]; exact heap_alloc_new V7 _)
        exact World.news_of_block (cs := #[.int .i64 d.x, .int .i64 d.y, .int .i64 d.z, .int .i64 d.k]) (t := 41) (fr := (0, 0)) hq
      have HLO : Hid (B + 1 ≤ w1.heap.size) := by have h1 := bV2.size; unfold Hid; omega
      have hbq : ∀ w2 : World, w1.grownBy w2 (Value.slice a0 n0 c0).ownBlock → w2.heap[B]? = w1.heap[B]? := fun w2 hgr => hgr.block B (by have := HLO.out; omega) (fun e => by have := (OG.lt hog B e.symm).1; omega)
      have HPU : Hid (∀ v3 w2, w2.ownsRow (B + 1) 41 4 v3 (n0 + 1) ((vbL (s.take j) p (vpk p d)).flatMap vdC ++ [.int .i64 d.x, .int .i64 d.y, .int .i64 d.z, .int .i64 d.k]) → w1.grownBy w2 (Value.slice a0 n0 c0).ownBlock → (v3.ownBlock = (Value.slice a0 n0 c0).ownBlock ∨ v3.ownBlock = some w1.heap.size) →
          ∃ (a3 : Option Addr) (n3 c3 : Nat) (w3 : World), v3 = .slice a3 n3 c3 ∧ (Instr.entryStore 99 (.map (some B)) (.int .i64 (st : Int)) (.slice a3 n3 c3)).run Try.prog w2 = .ok () w3 ∧ DBD w3 B s p (j + 1) ∧ Below B W w3 ∧ B + 1 ≤ w3.heap.size) := by
        intro v3 w2 h1 h2 h3
        obtain ⟨s3, rfl⟩ : ∃ s3 : Sv, v3 = s3.v := by
          rcases h1.2 with ⟨h1, _⟩ | ⟨g, cap, cur, h1, _⟩
          · exact ⟨(none, 0, 0), h1⟩
          · exact ⟨(some ⟨g, 0, none⟩, n0 + 1, cap), h1⟩
        obtain ⟨w3, hr3, hT3, hg3, _⟩ := hback w2 s3 (hbq w2 h2)
        exact ⟨s3.1, s3.2.1, s3.2.2, w3, rfl, hr3, dbd_push hG hnn hne0 hjl HD.out hs hB7 hB71 hV2 hg1 hz1' h1 h2 h3 hT3 hg3⟩
      rw [hV2] at hent
      clear hK hk1 hF hoth hsz hcell hS hb7 qd HQD HRR br7 hG0 hG hB7 hB71 hV2 bV2 hkey hs hg1 hz1' hback e0 hog hn0 hbq hnn hne0 x0 x1 xl HXB HXY hxw hyw hp0 hp1 HD hX hY
      go_wp2_with (at_builtin; refine wpList_append_own_at _ rfl _ _ 25 rfl (B + 1) 41 i0 (.agg #[.int .i64 0, .int .i64 0, .int .i64 0, .int .i64 0]) 4 32 Try.underlying25 hi0 hz0 hz1 hz2 rfl (by decide) (.slice a0 n0 c0) n0 _ rfl HOW.out ⟨V7.heap.size, 0, none⟩ 1 1 [.int .i64 d.x, .int .i64 d.y, .int .i64 d.z, .int .i64 d.k] rfl rfl HNW.out (by simp [Value.oneCell']) (by unfold maxLen; omega) (by omega) HLO.out ?_; intro v3 w2 hown3 hgrow3 _ hloc3; obtain ⟨a3, n3, c3, w3, rfl, hst, HDn⟩ := HPU.out v3 w2 hown3 hgrow3 hloc3; have HDN : Hid (DBD w3 B s p (j + 1) ∧ Below B W w3 ∧ B + 1 ≤ w3.heap.size) := HDn; clear HDn hown3 hgrow3 hloc3)
      go_roundw
      case rel => exact ⟨j + 1, by omega, by go_num, HDN.out⟩
      case measure => simp [intOf]; omega
    · obtain rfl : j = n := by omega
      have HD : Hid (DBD wr B s p j ∧ Below B W wr) := ⟨hR.out.1, hR.out.2.1⟩
      clear hR hlt
      go_wp2
      go_returns
      exact ⟨rfl, HD.out.1, HD.out.2⟩

end Go.Proofs.Ytjacmneopijiaaa
