/- Proved here: tableOf of the program: the places of classes, by the kind that they ask for. -/
import Derived.Test.YtjacmneopijiaaaVtM
import Derived.Test.YtjacmneopijiaaaTmC
import Derived.Test.YtjacmneopijiaaaVoI
import Derived.Test.YtjacmneopijiaaaLwS
import Derived.Deep.AppendLies
namespace Go.Proofs.Ytjacmneopijiaaa
open Go.RowKit
set_option linter.unusedVariables false
set_option linter.unusedSimpArgs false

theorem tk_law : Maps.Keyed Try.prog 2 := Maps.int_keyed Try.underlying2
theorem tk_zero (w : World) : (zeroValue 110).run Try.prog w = .ok (.slice none 0 0) w := by kernel_rfl
theorem tk_make (w : World) : (Instr.makeMap 77 none).run Try.prog w = .ok (.map (some w.heap.size)) (w.alloc (.map #[] 0)) := by
  have h := run_underlying Try.underlying77 w
  simp [Instr.makeMap, h]
theorem tk_key {x : Int} (h : -9223372036854775808 ≤ x ∧ x ≤ 9223372036854775807) : keyOf Try.prog 2 (.int .i64 x) = some (.int .i64 x) := Maps.keyOf_int_mk Try.underlying2 (ik_wf x h.1 h.2)
/-- The table of the first j classes: a map in the block behind B's first. -/
def TBL (w : World) (B : Nat) (cs : List Cls) (j : Nat) : Prop := ∃ n f, n ≤ j ∧ GM 3 1 inC w 2 (B + 1) (B + 2) n f (vtL cs j)
theorem TBL.below {w w' : World} {B j : Nat} {cs : List Cls} (h : TBL w B cs j) (hb : Below w.heap.size w w') : TBL w' B cs j := by
  obtain ⟨n, f, hn, hg⟩ := h
  exact ⟨n, f, hn, hg.below hb⟩
theorem gm_conv {α : Type} {T sz : Nat} {enc : α → List Value} {w : World} {k : TypeId} {b lo n : Nat} {f : Lit → Option Sv} {L L' : Lit → List α} (h : GM T sz enc w k b lo n f L) (e : ∀ q, L q = L' q) : GM T sz enc w k b lo n f L' := by
  have : L = L' := funext e
  subst this; exact h
theorem news_one (w : World) (x : Value) (t : TypeId) : ∀ j u, [x][j]? = some u → (w.alloc (.cells #[x] t)).cell? ((⟨w.heap.size, 0, none⟩ : Addr).add j) = some u := cell_one_new w x t

theorem og_from {α : Type} {T sz : Nat} {enc : α → List Value} {w w' : World} {lo : Nat} {v : Value} {s : List α} (h : OG T sz enc w lo v s) (hq : ∀ q, lo ≤ q → q < w.heap.size → w'.heap[q]? = w.heap[q]?) : OG T sz enc w' lo v s :=
  ownsRow_keep h fun g hg => hq g (OG.lt h g hg).1 (OG.lt h g hg).2
theorem GM.from {α : Type} {T sz : Nat} {enc : α → List Value} {w w' : World} {k : TypeId} {b lo n : Nat} {f : Lit → Option Sv} {L : Lit → List α} (h : GM T sz enc w k b lo n f L) (hq : ∀ q, b ≤ q → q < w.heap.size → w'.heap[q]? = w.heap[q]?) : GM T sz enc w' k b lo n f L :=
  ⟨h.tm.block (hq b (Nat.le_refl _) h.tm.lt), fun kl s hs => og_from (h.own kl s hs) (fun q h1 h2 => hq q (by have := h.lt; omega) h2), h.no, h.ap, h.lt⟩
theorem TBL.from {w w' : World} {B j : Nat} {cs : List Cls} (h : TBL w B cs j) (hq : ∀ q, B + 1 ≤ q → q < w.heap.size → w'.heap[q]? = w.heap[q]?) : TBL w' B cs j := by
  obtain ⟨n, f, hn, hg⟩ := h
  exact ⟨n, f, hn, hg.from hq⟩
theorem tbl_push {w V V2 w3 : World} {B kc j n0 c0 nn : Nat} {cs : List Cls} {a0 : Option Addr} {f : Lit → Option Sv} {m : Cls} {o ob : Obj} {v3 : Value}
    (hG : GM 3 1 inC V 2 (B + 1) (B + 2) nn f (vtL cs j)) (hnn : nn ≤ j) (hj : j < cs.length) (hjs : j ≤ 1000) (hm : m = cs[j]) (hk : -1 ≤ m.k ∧ m.k ≤ 9) (hs : (f (.int .i64 m.k)).getD svN = (a0, n0, c0))
    (hkc : V.heap[kc]? = some o) (holt : ∀ g, (Value.slice a0 n0 c0).ownBlock = some g → g < kc) (hkB : B + 2 ≤ kc) (hB : Below B w V) (hob : V.heap[B]? = some ob) (hV2 : V2 = V.alloc (.cells #[.int .i64 (j : Int)] 3))
    (hown : w3.ownsRow (B + 2) 3 1 v3 (n0 + 1) ((vpl cs j m.k).map (Value.int .i64) ++ [.int .i64 (j : Int)])) (hgrow : V2.grownBy w3 (Value.slice a0 n0 c0).ownBlock) (hloc : v3.ownBlock = (Value.slice a0 n0 c0).ownBlock ∨ v3.ownBlock = some V2.heap.size) :
    ∃ s3 : Sv, v3 = s3.v ∧ w3.heap[kc]? = some o ∧ ∃ w4, (Instr.mapUpdate 77 (.map (some (B + 1))) (.int .i64 m.k) s3.v).run Try.prog w3 = .ok () w4 ∧ w4.heap[kc]? = some o ∧ TBL w4 B cs (j + 1) ∧ Below B w w4 ∧ w4.heap[B]? = some ob ∧ B + 2 ≤ w4.heap.size := by
  have hkey := tk_key (x := m.k) (by omega)
  have e0 : ((f (.int .i64 m.k)).getD svN).v = .slice a0 n0 c0 := by rw [hs]
  have hog := hG.at (.int .i64 m.k) rfl
  rw [e0] at hog
  have hkl : kc < V.heap.size := ltOf hkc
  have hlow : ∀ g, (Value.slice a0 n0 c0).ownBlock = some g → B + 2 ≤ g := fun g hg => (OG.lt hog g hg).1
  have hgr : V.grownBy w3 (Value.slice a0 n0 c0).ownBlock := by
    subst hV2; exact (World.grownBy_alloc V _ _).trans hgrow
  obtain ⟨s3, rfl⟩ : ∃ s3 : Sv, v3 = s3.v := by
    rcases hown.2 with ⟨h1, _⟩ | ⟨g, cap, cur, h1, _⟩
    · exact ⟨(none, 0, 0), h1⟩
    · exact ⟨(some ⟨g, 0, none⟩, n0 + 1, cap), h1⟩
  have hT3 : TM w3 2 (B + 1) nn f := hG.tmAt (.int .i64 m.k) (by rw [e0]; exact hgr)
  obtain ⟨w4, hrun, hT4, hg4⟩ := hT3.put tk_law Try.underlying77 (by unfold maxLen; omega) hkey s3
  have hk3 : w3.heap[kc]? = some o := (hgr.block kc hkl (fun e => by have := holt kc e.symm; omega)).trans hkc
  have hk4 : w4.heap[kc]? = some o := (hg4.block kc (ltOf hk3) (fun e => by injection e with e; omega)).trans hk3
  have hb3 : w3.heap[B]? = some ob := (hgr.block B (ltOf hob) (fun e => by have := hlow B e.symm; omega)).trans hob
  have hb4 : w4.heap[B]? = some ob := (hg4.block B (ltOf hb3) (fun e => by injection e with e; omega)).trans hb3
  have hVs : B ≤ V.heap.size := by omega
  have hB3 : Below B w w3 := hB.grown hgr hVs (fun g hg => by have := hlow g hg; omega)
  have hB4 : Below B w w4 := hB3.grown hg4 (by have := hgr.size; omega) (fun g hg => by injection hg with hg; omega)
  refine ⟨s3, rfl, hk3, w4, hrun, hk4, ⟨nn + 1, _, by omega, gm_conv (hG.push (by simp [WideAt.IsKeyLit]) (l := vpl cs j m.k ++ [(j : Int)]) (by rw [e0]; exact hgr) ?_ ?_ hT4 hg4) (fun q => ?_)⟩, hB4, hb4, by have := hgr.size; have := hg4.size; omega⟩
  · refine og_nt.2 ?_
    have hl : n0 = (vpl cs j m.k).length := by
      obtain ⟨_, _, e9⟩ := (og_nt.1 hog).form
      injection e9
    unfold NT
    rw [List.length_append, List.map_append]
    rw [hl] at hown
    exact hown
  · rw [e0]
    rcases hloc with h1 | h1
    · exact Or.inl h1
    · exact Or.inr ⟨_, h1, by subst hV2; simp⟩
  · subst hm
    exact vtL_succ hj q


set_option maxRecDepth 10000 in
set_option maxHeartbeats 12800000 in
theorem impl_table {w : World} {v : Value} {cs : List Cls} (hn : cs.length ≤ 20) (hok : ∀ c ∈ cs, Cok c) (h : RG 6 vcC w v cs) :
    Calls Try.prog 44 #[v] w fun e w' => e = .returned (.agg #[v, .map (some (w.heap.size + 1))]) ∧ TBL w' w.heap.size cs cs.length ∧ Below w.heap.size w w' := by
  obtain ⟨a, c, rfl⟩ := h.form
  obtain ⟨n, hnn⟩ : ∃ n, n = cs.length := ⟨_, rfl⟩
  rw [← hnn] at h hn ⊢
  have H : Hid (RG 6 vcC w (.slice a n c) cs ∧ n = cs.length ∧ ∀ c ∈ cs, Cok c) := ⟨h, hnn, hok⟩
  clear h hnn hok
  have hmk := tk_make
  go_enter Try.func44, Try.ntmps44
  go_wp2
  obtain ⟨W0, hW0⟩ : ∃ W0, W0 = (w.alloc (.cells #[.slice none 0 0, .map none] 79)).alloc (.map #[] 0) := ⟨_, rfl⟩
  rw [← hW0]
  have HS0 : Hid (TBL W0 w.heap.size cs 0 ∧ Below w.heap.size w W0) := by
    rw [hW0]
    refine ⟨⟨0, fun _ => none, Nat.le_refl _, ?_⟩, by (repeat' (first | (with_reducible exact Below.refl _ _) | (with_reducible assumption) | (with_reducible refine Below.setCell ?_ ?_ _) | (with_reducible refine Below.alloc ?_ ?_ _) | (with_reducible refine below_drewN ?_ _) | (with_reducible refine Below.drew ?_) | (with_reducible exact Nat.le_refl _) | omega | (simp; done) | (simp; omega)))⟩
    have h9 := GM.made 3 1 inC (w.alloc (.cells #[.slice none 0 0, .map none] 79)) 2
    have e9 : (w.alloc (.cells #[.slice none 0 0, .map none] 79)).heap.size = w.heap.size + 1 := by simp
    rw [e9] at h9
    exact gm_conv h9 (fun q => (vtL_zero cs q).symm)
  have HC0 : Hid (W0.heap[w.heap.size]? = some (.cells #[.slice none 0 0, .map none] 79)) := by
    rw [hW0]; exact (Below.heap_alloc _ _ _ (by simp)).trans (heap_alloc_new w _)
  have HZ0 : Hid (w.heap.size + 2 ≤ W0.heap.size) := by rw [hW0]; unfold Hid; simp
  clear hW0 hmk
  go_loopw [9] (fun i wr => ∃ j : Nat, j ≤ n ∧ i = .int .i64 j ∧ Hid (TBL wr w.heap.size cs j) ∧ Hid (Below w.heap.size w wr ∧ wr.heap[w.heap.size]? = some (.cells #[.slice none 0 0, .map none] 79) ∧ w.heap.size + 2 ≤ wr.heap.size)) (fun i _ => n - (intOf i).toNat)
  case atStart => exact ⟨0, Nat.zero_le _, rfl, HS0.out.1, HS0.out.2, HC0.out, HZ0.out⟩
  case round =>
    clear HS0 HC0 HZ0
    obtain ⟨j, hj, rfl, hT, hR⟩ := hrel
    by_cases hlt : j < n
    · have hjl : j < cs.length := by rw [← H.out.2.1]; exact hlt
      obtain ⟨g, o, c2, he, hg, hjc⟩ := (H.out.1.below hR.out.1).pos (by omega)
      simp only [Value.slice.injEq] at he
      obtain ⟨rfl, hx1, hx2⟩ := he
      clear hx1 hx2
      obtain ⟨c0, c1, c2', c3, c4, c5⟩ := vcC_at (hjc j hjl)
      obtain ⟨m, hm⟩ : ∃ m, m = cs[j] := ⟨_, rfl⟩
      rw [← hm] at c0 c1 c2' c3 c4 c5
      have HM : Hid (m = cs[j]) := hm
      have HKB : Hid (-1 ≤ m.k ∧ m.k ≤ 9) := by have h9 := H.out.2.2 cs[j] (List.getElem_mem _); rw [hm]; exact ⟨h9.1, h9.2.1⟩
      clear hjc hm
      have b0 : (0 : Int) ≤ (j : Int) := by omega
      have b1 : (j : Int) < (n : Int) := by omega
      go_wp2_with (fail)
      obtain ⟨V, hV⟩ : ∃ V, V = wr.alloc (.cells #[.int .i64 m.k, .int .i64 m.lo, .int .i64 m.hi, .int .i64 m.nm, .int .i64 m.q.n, .int .i64 m.q.d] 66) := ⟨_, rfl⟩
      obtain ⟨kc, hkc⟩ : ∃ k, k = wr.heap.size := ⟨_, rfl⟩
      rw [← hV, ← hkc]
      have bV : Below wr.heap.size wr V := by rw [hV]; (repeat' (first | (with_reducible exact Below.refl _ _) | (with_reducible assumption) | (with_reducible refine Below.setCell ?_ ?_ _) | (with_reducible refine Below.alloc ?_ ?_ _) | (with_reducible refine below_drewN ?_ _) | (with_reducible refine Below.drew ?_) | (with_reducible exact Nat.le_refl _) | omega | (simp; done) | (simp; omega)))
      have HKC : Hid (V.heap[kc]? = some (.cells #[.int .i64 m.k, .int .i64 m.lo, .int .i64 m.hi, .int .i64 m.nm, .int .i64 m.q.n, .int .i64 m.q.d] 66)) := by rw [hV, hkc]; exact heap_alloc_new wr _
      obtain ⟨X, hX⟩ : ∃ X, X = V.drew := ⟨_, rfl⟩
      have bX : Below V.heap.size V X := by rw [hX]; exact (Below.refl _ _).drew
      have hXs : X.heap.size = V.heap.size := by rw [hX]; simp
      have hVs : kc < V.heap.size := ltOf HKC.out
      have hS0 : X.heap[kc]? = some (.cells #[.int .i64 m.k, .int .i64 m.lo, .int .i64 m.hi, .int .i64 m.nm, .int .i64 m.q.n, .int .i64 m.q.d] 66) := (bX.block _ hVs).trans HKC.out
      have bwX : Below w.heap.size w X := hR.out.1.trans ((bV.mono hR.out.1.size).trans (bX.mono (Nat.le_trans hR.out.1.size bV.size)))
      have brX : Below wr.heap.size wr X := bV.trans (bX.mono bV.size)
      have hob : X.heap[w.heap.size]? = some (.cells #[.slice none 0 0, .map none] 79) := (brX.block _ (by have := hR.out.2.2; omega)).trans hR.out.2.1
      obtain ⟨nn, f, hnn, hG⟩ := hT.out
      obtain ⟨a0, n0, c0', hs⟩ : ∃ a0 n0 c0, (f (.int .i64 m.k)).getD svN = (a0, n0, c0) := ⟨_, _, _, rfl⟩
      have e0 : ((f (.int .i64 m.k)).getD svN).v = .slice a0 n0 c0' := by rw [hs]
      have hog := hG.at (.int .i64 m.k) rfl
      rw [e0] at hog
      have holt : ∀ g, (Value.slice a0 n0 c0').ownBlock = some g → g < kc := fun g hg => by rw [hkc]; exact (OG.lt hog g hg).2
      have hn0 : n0 = (vpl cs j m.k).length := by
        obtain ⟨_, _, e9⟩ := (og_nt.1 hog).form
        injection e9
      have hn1 : n0 ≤ 20 := by rw [hn0]; exact Nat.le_trans (vpl_len _ _ _) (by omega)
      obtain ⟨X2, hX2⟩ : ∃ X2, X2 = X.alloc (.cells #[.int .i64 (j : Int)] 3) := ⟨_, rfl⟩
      have bX2 : Below X.heap.size X X2 := by rw [hX2]; (repeat' (first | (with_reducible exact Below.refl _ _) | (with_reducible assumption) | (with_reducible refine Below.setCell ?_ ?_ _) | (with_reducible refine Below.alloc ?_ ?_ _) | (with_reducible refine below_drewN ?_ _) | (with_reducible refine Below.drew ?_) | (with_reducible exact Nat.le_refl _) | omega | (simp; done) | (simp; omega)))
      have hl1 := (hG.below brX).tm.look tk_law Try.underlying77 (tk_zero _) (tk_key (x := m.k) (by have := HKB.out; omega))
      rw [e0] at hl1
      have hl2 := ((hG.below brX).below bX2).tm.look tk_law Try.underlying77 (tk_zero _) (tk_key (x := m.k) (by have := HKB.out; omega))
      rw [e0] at hl2
      have HOW : Hid (X2.ownsRow (w.heap.size + 2) 3 1 (.slice a0 n0 c0') n0 ((vpl cs j m.k).map (Value.int .i64))) := by
        have h9 := og_nt.1 ((hog.below brX).below bX2)
        unfold NT at h9
        rw [vtL_int, ← hn0] at h9
        exact h9
      have HNW : Hid (∀ jj u, [Value.int .i64 (j : Int)][jj]? = some u → X2.cell? ((⟨X.heap.size, 0, none⟩ : Addr).add jj) = some u) := by rw [hX2]; exact news_one X _ _
      have HLO : Hid (w.heap.size + 2 ≤ X2.heap.size) := by have h1 := bX2.size; have h2 := brX.size; have h3 := hR.out.2.2; unfold Hid; omega
      have HS2 : Hid (X2.heap[kc]? = some (.cells #[.int .i64 m.k, .int .i64 m.lo, .int .i64 m.hi, .int .i64 m.nm, .int .i64 m.q.n, .int .i64 m.q.d] 66)) := (bX2.block _ (by omega)).trans hS0
      have HPU : Hid (∀ v3 w3, w3.ownsRow (w.heap.size + 2) 3 1 v3 (n0 + 1) ((vpl cs j m.k).map (Value.int .i64) ++ [.int .i64 (j : Int)]) → X2.grownBy w3 (Value.slice a0 n0 c0').ownBlock → (v3.ownBlock = (Value.slice a0 n0 c0').ownBlock ∨ v3.ownBlock = some X2.heap.size) →
          ∃ s3 : Sv, v3 = s3.v ∧ w3.heap[kc]? = some (.cells #[.int .i64 m.k, .int .i64 m.lo, .int .i64 m.hi, .int .i64 m.nm, .int .i64 m.q.n, .int .i64 m.q.d] 66) ∧ ∃ w4, (Instr.mapUpdate 77 (.map (some (w.heap.size + 1))) (.int .i64 m.k) s3.v).run Try.prog w3 = .ok () w4 ∧ w4.heap[kc]? = some (.cells #[.int .i64 m.k, .int .i64 m.lo, .int .i64 m.hi, .int .i64 m.nm, .int .i64 m.q.n, .int .i64 m.q.d] 66) ∧ TBL w4 w.heap.size cs (j + 1) ∧ Below w.heap.size w w4 ∧ w4.heap[w.heap.size]? = some (.cells #[.slice none 0 0, .map none] 79) ∧ w.heap.size + 2 ≤ w4.heap.size) :=
        fun v3 w3 h1 h2 h3 => tbl_push (hG.below brX) hnn hjl (by omega) HM.out HKB.out hs hS0 holt (by rw [hkc]; exact hR.out.2.2) bwX hob hX2 h1 h2 h3
      have HX2 : Hid (X2 = X.alloc (.cells #[.int .i64 (j : Int)] 3)) := hX2
      obtain ⟨i0, hi0, hz0, hz1, hz2⟩ := info_parts info_vint
      have hm0 : V.drew = X := hX.symm
      clear bV hV hkc hT hR hG hog holt hn0 hs e0 bwX brX hob hX2 bX2 HKC c0 c1 c2' c3 c4 c5 hX hnn hVs bX hXs
      refine wp_region_holdsA (S := fun w' => w'.heap[kc]? = some (.cells #[.int .i64 m.k, .int .i64 m.lo, .int .i64 m.hi, .int .i64 m.nm, .int .i64 m.q.n, .int .i64 m.q.d] 66)) (by kernel_rfl) (by rw [hm0]; exact hS0) (fun hS => ?_)
      rw [hm0] at hS ⊢
      clear hm0 hS0
      refine fl_takeA (i := 0) (d := 14) (v := .map (some (w.heap.size + 1))) rfl rfl rfl (by kernel_rfl) (by kernel_rfl) (by kernel_rfl) hS ?_ ?_
      · intro w' hk; go_simp
      simp only [Act.put, List.setIfInBounds_toArray, List.set_cons_zero, List.set_cons_succ]
      refine fl_takeA (i := 1) (d := 15) (v := .pointer (some ⟨kc, 0, none⟩)) rfl rfl rfl (by kernel_rfl) (by kernel_rfl) (by kernel_rfl) hS ?_ ?_
      · intro w' hk; have x0 := cellOf hk 0 rfl; have x1 := ltOf hk; go_simp
      simp only [Act.put, List.setIfInBounds_toArray, List.set_cons_zero, List.set_cons_succ]
      refine fl_takeA (i := 2) (d := 16) (v := .int .i64 m.k) rfl rfl rfl (by kernel_rfl) (by kernel_rfl) (by kernel_rfl) hS ?_ ?_
      · intro w' hk; have x0 := cellOf hk 0 rfl; have x1 := ltOf hk; go_simp
      simp only [Act.put, List.setIfInBounds_toArray, List.set_cons_zero, List.set_cons_succ]
      refine fl_takeA (i := 3) (d := 17) (v := .map (some (w.heap.size + 1))) rfl rfl rfl (by kernel_rfl) (by kernel_rfl) (by kernel_rfl) hS ?_ ?_
      · intro w' hk; go_simp
      simp only [Act.put, List.setIfInBounds_toArray, List.set_cons_zero, List.set_cons_succ]
      refine fl_takeA (i := 4) (d := 18) (v := .pointer (some ⟨kc, 0, none⟩)) rfl rfl rfl (by kernel_rfl) (by kernel_rfl) (by kernel_rfl) hS ?_ ?_
      · intro w' hk; have x0 := cellOf hk 0 rfl; have x1 := ltOf hk; go_simp
      simp only [Act.put, List.setIfInBounds_toArray, List.set_cons_zero, List.set_cons_succ]
      refine fl_takeA (i := 5) (d := 19) (v := .int .i64 m.k) rfl rfl rfl (by kernel_rfl) (by kernel_rfl) (by kernel_rfl) hS ?_ ?_
      · intro w' hk; have x0 := cellOf hk 0 rfl; have x1 := ltOf hk; go_simp
      simp only [Act.put, List.setIfInBounds_toArray, List.set_cons_zero, List.set_cons_succ]
      refine fl_takeA (i := 7) (d := 21) (v := .int .i64 (j : Int)) rfl rfl rfl (by kernel_rfl) (by kernel_rfl) (by kernel_rfl) hS ?_ ?_
      · intro w' hk; go_simp
      simp only [Act.put, List.setIfInBounds_toArray, List.set_cons_zero, List.set_cons_succ]
      refine wpAnyH_all (rs := [6, 8]) (by kernel_rfl) (by simp) ?_
      intro iz hi
      rcases (show iz = 6 ∨ iz = 8 by simpa using hi) with rfl | rfl
      · clear hi
        refine op_val (d := 20) (v := .slice a0 n0 c0') (w' := X) rfl rfl rfl (by go_simp; try rfl) ?_
        simp only [Act.put, List.setIfInBounds_toArray, List.set_cons_zero, List.set_cons_succ]
        refine ⟨hS, ?_⟩
        refine wpAnyH_all (rs := [8]) (by kernel_rfl) (by simp) ?_
        intro iz hi
        obtain rfl : iz = 8 := by simpa using hi
        clear hi
        refine op_val (d := 22) (v := .slice (some ⟨X.heap.size, 0, none⟩) 1 1) (w' := X2) rfl rfl rfl (by go_simp; exact HX2.out.symm) ?_
        simp only [Act.put, List.setIfInBounds_toArray, List.set_cons_zero, List.set_cons_succ]
        refine ⟨HS2.out, ?_⟩
        refine wpAnyH_all (rs := [9]) (by kernel_rfl) (by simp) ?_
        intro iz hi
        obtain rfl : iz = 9 := by simpa using hi
        clear hi
        refine op_appAt (dd := 23) rfl rfl rfl _ _ 110 rfl (w.heap.size + 2) 3 i0 (.int .i64 0) 1 8 Try.underlying110 hi0 hz0 hz1 hz2 rfl (by decide) (.slice a0 n0 c0') n0 _ rfl HOW.out ⟨X.heap.size, 0, none⟩ 1 1 [.int .i64 (j : Int)] rfl rfl HNW.out (by simp [Value.oneCell']) (by unfold maxLen; omega) (by omega) HLO.out ?_
        intro v3 w3 hown3 hgrow3 hloc3
        obtain ⟨⟨a3, n3, c3⟩, hs3, hS3, w4, hrun4, hS4, HG4⟩ := HPU.out v3 w3 hown3 hgrow3 hloc3
        subst hs3
        refine ⟨hS3, ?_⟩
        simp only [Act.put, List.setIfInBounds_toArray, List.set_cons_zero, List.set_cons_succ]
        refine wpAnyH_all (rs := [10]) (by kernel_rfl) (by simp) ?_
        intro iz hi
        obtain rfl : iz = 10 := by simpa using hi
        clear hi
        refine op_skipN (w' := w4) rfl rfl (by go_simp; try rfl) ?_
        refine ⟨hS4, ?_⟩
        refine wpAnyH_done (by kernel_rfl) (NoPanic.normal ?_) _
        have HG5 : Hid (TBL w4 w.heap.size cs (j + 1) ∧ Below w.heap.size w w4 ∧ w4.heap[w.heap.size]? = some (.cells #[.slice none 0 0, .map none] 79) ∧ w.heap.size + 2 ≤ w4.heap.size) := HG4
        clear hown3 hgrow3 hloc3 hrun4 HG4 hS3 hS4 HPU HOW HNW HLO HX2 HS2 hl1 hl2 hS
        go_wp2
        go_roundw
        case rel => exact ⟨j + 1, by omega, by go_num, HG5.out.1, HG5.out.2⟩
        case measure => simp [intOf]; omega
      · clear hi
        refine op_val (d := 22) (v := .slice (some ⟨X.heap.size, 0, none⟩) 1 1) (w' := X2) rfl rfl rfl (by go_simp; exact HX2.out.symm) ?_
        simp only [Act.put, List.setIfInBounds_toArray, List.set_cons_zero, List.set_cons_succ]
        refine ⟨HS2.out, ?_⟩
        refine wpAnyH_all (rs := [6]) (by kernel_rfl) (by simp) ?_
        intro iz hi
        obtain rfl : iz = 6 := by simpa using hi
        clear hi
        refine op_val (d := 20) (v := .slice a0 n0 c0') (w' := X2) rfl rfl rfl (by go_simp; try rfl) ?_
        simp only [Act.put, List.setIfInBounds_toArray, List.set_cons_zero, List.set_cons_succ]
        refine ⟨HS2.out, ?_⟩
        refine wpAnyH_all (rs := [9]) (by kernel_rfl) (by simp) ?_
        intro iz hi
        obtain rfl : iz = 9 := by simpa using hi
        clear hi
        refine op_appAt (dd := 23) rfl rfl rfl _ _ 110 rfl (w.heap.size + 2) 3 i0 (.int .i64 0) 1 8 Try.underlying110 hi0 hz0 hz1 hz2 rfl (by decide) (.slice a0 n0 c0') n0 _ rfl HOW.out ⟨X.heap.size, 0, none⟩ 1 1 [.int .i64 (j : Int)] rfl rfl HNW.out (by simp [Value.oneCell']) (by unfold maxLen; omega) (by omega) HLO.out ?_
        intro v3 w3 hown3 hgrow3 hloc3
        obtain ⟨⟨a3, n3, c3⟩, hs3, hS3, w4, hrun4, hS4, HG4⟩ := HPU.out v3 w3 hown3 hgrow3 hloc3
        subst hs3
        refine ⟨hS3, ?_⟩
        simp only [Act.put, List.setIfInBounds_toArray, List.set_cons_zero, List.set_cons_succ]
        refine wpAnyH_all (rs := [10]) (by kernel_rfl) (by simp) ?_
        intro iz hi
        obtain rfl : iz = 10 := by simpa using hi
        clear hi
        refine op_skipN (w' := w4) rfl rfl (by go_simp; try rfl) ?_
        refine ⟨hS4, ?_⟩
        refine wpAnyH_done (by kernel_rfl) (NoPanic.normal ?_) _
        have HG5 : Hid (TBL w4 w.heap.size cs (j + 1) ∧ Below w.heap.size w w4 ∧ w4.heap[w.heap.size]? = some (.cells #[.slice none 0 0, .map none] 79) ∧ w.heap.size + 2 ≤ w4.heap.size) := HG4
        clear hown3 hgrow3 hloc3 hrun4 HG4 hS3 hS4 HPU HOW HNW HLO HX2 HS2 hl1 hl2 hS
        go_wp2
        go_roundw
        case rel => exact ⟨j + 1, by omega, by go_num, HG5.out.1, HG5.out.2⟩
        case measure => simp [intOf]; omega
    · obtain rfl : j = n := by omega
      have HD : Hid (TBL wr w.heap.size cs j ∧ Below w.heap.size w wr) := ⟨hT.out, hR.out.1⟩
      have q1 := hR.out.2.1
      have t0 : wr.cell? ⟨w.heap.size, 0, none⟩ = some (.slice none 0 0) := cellOf q1 0 rfl
      have t1 : wr.cell? ⟨w.heap.size, 1, none⟩ = some (.map none) := cellOf q1 1 rfl
      have f0 := frozOf q1 0
      have f1 := frozOf q1 1
      have tl := ltOf q1
      have hk1 : (wr.setCell ⟨w.heap.size, 0, none⟩ (.slice a j c)).heap[w.heap.size]? = some (.cells #[.slice a j c, .map none] 79) := (tset2 (b' := .map none) q1).1
      have hk2 : ((wr.setCell ⟨w.heap.size, 0, none⟩ (.slice a j c)).setCell ⟨w.heap.size, 1, none⟩ (.map (some (w.heap.size + 1)))).heap[w.heap.size]? = some (.cells #[.slice a j c, .map (some (w.heap.size + 1))] 79) := (tset2 q1).2
      have e1 : (wr.setCell ⟨w.heap.size, 0, none⟩ (.slice a j c)).cell? ⟨w.heap.size, 0, none⟩ = some (.slice a j c) := cellOf hk1 0 rfl
      have e2 : ((wr.setCell ⟨w.heap.size, 0, none⟩ (.slice a j c)).setCell ⟨w.heap.size, 1, none⟩ (.map (some (w.heap.size + 1)))).cell? ⟨w.heap.size, 1, none⟩ = some (.map (some (w.heap.size + 1))) := cellOf hk2 1 rfl
      have e3 : ((wr.setCell ⟨w.heap.size, 0, none⟩ (.slice a j c)).setCell ⟨w.heap.size, 1, none⟩ (.map (some (w.heap.size + 1)))).cell? ⟨w.heap.size, 0, none⟩ = some (.slice a j c) := cellOf hk2 0 rfl
      clear q1 hR hT hk1 hk2
      go_wp2
      refine bodyPost_ret (by simp [results, Try.results44, go_sem, e1, e2, e3, tl]; try rfl) rfl ?_
      refine ⟨rfl, HD.out.1.from (fun q h1 h2 => ?_), ?_⟩
      · rw [heap_setCell_other _ _ _ _ (by show q ≠ w.heap.size; omega), heap_setCell_other _ _ _ _ (by show q ≠ w.heap.size; omega)]
      · exact (HD.out.2.setCell (Nat.le_refl _) _).setCell (Nat.le_refl _) _

end Go.Proofs.Ytjacmneopijiaaa
