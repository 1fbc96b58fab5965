/- Proved here: a shape's area and rim are those of its cells over the frame of its least box; the draw of a shape for them. -/
import Derived.Test.YtokdpgabmifdjabFcM
import Derived.Test.YtokdpgabmifdjabFcA
import Derived.Test.YtokdpgabmifdjabFcB
import Derived.Test.YtokdpgabmifdjabFcI
import Derived.Test.YtokdpgabmifdjabDrawN
namespace Go.Proofs.Ytokdpgabmifdjab
open Go.RowKit
set_option linter.unusedVariables false
set_option linter.unusedSimpArgs false

theorem join_le (a b : Bx) : (joinB a b).x0 ≤ a.x0 ∧ (joinB a b).y0 ≤ a.y0 ∧ a.x1 ≤ (joinB a b).x1 ∧ a.y1 ≤ (joinB a b).y1 ∧ (joinB a b).x0 ≤ b.x0 ∧ (joinB a b).y0 ≤ b.y0 ∧ b.x1 ≤ (joinB a b).x1 ∧ b.y1 ≤ (joinB a b).y1 := by
  simp only [joinB, minI, maxI]
  refine ⟨?_, ?_, ?_, ?_, ?_, ?_, ?_, ?_⟩ <;> split <;> omega
/-- The least box has each box, and no more than it must. -/
theorem fold_join : ∀ (l : List Bx) (a : Bx), ((l.foldl joinB a).x0 ≤ a.x0 ∧ (l.foldl joinB a).y0 ≤ a.y0 ∧ a.x1 ≤ (l.foldl joinB a).x1 ∧ a.y1 ≤ (l.foldl joinB a).y1) ∧
    (∀ b ∈ l, (l.foldl joinB a).x0 ≤ b.x0 ∧ (l.foldl joinB a).y0 ≤ b.y0 ∧ b.x1 ≤ (l.foldl joinB a).x1 ∧ b.y1 ≤ (l.foldl joinB a).y1) ∧
    ∀ (lo hi : Int), (∀ b ∈ a :: l, lo ≤ b.x0 ∧ lo ≤ b.y0 ∧ b.x1 ≤ hi ∧ b.y1 ≤ hi) → lo ≤ (l.foldl joinB a).x0 ∧ lo ≤ (l.foldl joinB a).y0 ∧ (l.foldl joinB a).x1 ≤ hi ∧ (l.foldl joinB a).y1 ≤ hi := by
  intro l
  induction l with
  | nil => intro a; exact ⟨⟨Int.le_refl _, Int.le_refl _, Int.le_refl _, Int.le_refl _⟩, (fun b hb => by cases hb), (fun lo hi h => h a (by simp))⟩
  | cons c t ih =>
    intro a
    rw [List.foldl_cons]
    obtain ⟨h1, h2, h3⟩ := ih (joinB a c)
    have hj := join_le a c
    refine ⟨⟨by omega, by omega, by omega, by omega⟩, fun b hb => ?_, fun lo hi h => h3 lo hi fun b hb => ?_⟩
    · rcases List.mem_cons.1 hb with rfl | hb
      · refine ⟨by omega, by omega, by omega, by omega⟩
      · exact h2 b hb
    · rcases List.mem_cons.1 hb with rfl | hb
      · have e1 := h a (by simp)
        have e2 := h c (by simp)
        simp only [joinB, minI, maxI]
        refine ⟨?_, ?_, ?_, ?_⟩ <;> split <;> omega
      · exact h b (by simp [hb])
theorem bat_mem {s : List Bx} (h : 0 < s.length) : bat s 0 ∈ s := by
  cases s with
  | nil => simp at h
  | cons b t => simp [bat]
theorem bnd_all {s : List Bx} (hp : 0 < s.length) : (∀ b ∈ s, (bnd s s.length).x0 ≤ b.x0 ∧ (bnd s s.length).y0 ≤ b.y0 ∧ b.x1 ≤ (bnd s s.length).x1 ∧ b.y1 ≤ (bnd s s.length).y1) ∧
    ∀ lo hi, (∀ b ∈ s, lo ≤ b.x0 ∧ lo ≤ b.y0 ∧ b.x1 ≤ hi ∧ b.y1 ≤ hi) → lo ≤ (bnd s s.length).x0 ∧ lo ≤ (bnd s s.length).y0 ∧ (bnd s s.length).x1 ≤ hi ∧ (bnd s s.length).y1 ≤ hi := by
  unfold bnd
  rw [List.take_length]
  obtain ⟨_, h2, h3⟩ := fold_join s (bat s 0)
  refine ⟨h2, fun lo hi h => h3 lo hi fun b hb => ?_⟩
  rcases List.mem_cons.1 hb with rfl | hb
  · exact h _ (bat_mem hp)
  · exact h b hb

theorem areaS_F : ∀ s : List Bx, areaS s = sumB areaF s
  | [] => rfl
  | b :: t => by simp only [areaS, sumB]; rw [areaS_F t]; rfl
def frW (s : List Bx) : Nat := ((bnd s s.length).x1 - (bnd s s.length).x0 + 1).toNat
def frH (s : List Bx) : Nat := ((bnd s s.length).y1 - (bnd s s.length).y0 + 1).toNat
theorem okS {s : List Bx} (h : shapeK s = 0) : ∀ b ∈ s, b.x0 < b.x1 ∧ b.y0 < b.y1 ∧ -10000 ≤ b.x0 ∧ -10000 ≤ b.y0 ∧ b.x1 ≤ 10000 ∧ b.y1 ≤ 10000 := (boxesK_zero (area_zero h)).2
theorem cells_all {s : List Bx} (h : shapeK s = 0) (hp : 0 < s.length) : areaV s = grid (fun i j => ioC s ((bnd s s.length).x0 - 1 + i) ((bnd s s.length).y0 - 1 + j)) (frH s) (frW s) ∧ rimV s = grid (fun i j => rioC s ((bnd s s.length).x0 - 1 + i) ((bnd s s.length).y0 - 1 + j)) (frH s) (frW s) := by
  obtain ⟨rows, hr, hF⟩ := shape_rows h
  have ha : s.Pairwise Aft := by rw [hr]; exact form_after hF
  have hb := (bnd_all hp).1
  have hok := okS h
  have hf : Framed ((bnd s s.length).x0 - 1) ((bnd s s.length).y0 - 1) (frW s) (frH s) s := by
    intro b hb'
    have h1 := hb b hb'
    have h2 := hok b hb'
    unfold frW frH
    omega
  refine ⟨?_, ?_⟩
  · rw [cells_area ha hf]
    unfold areaV
    rw [if_pos h, areaS_F]
  · rw [cells_rim ha hf]
    unfold rimV
    rw [if_pos h]
theorem in_io {s : List Bx} (h : shapeK s = 0) (x y : Int) : ioC s x y = if inSK s x y = true then 1 else 0 := by
  unfold ioC inSK hasK
  rw [h]
  simp

set_option maxRecDepth 10000 in
set_option maxHeartbeats 3200000 in
theorem drawR_any (ca : Option Addr) (n cap : Nat) (bs : Nat → Int) (w : World) (hn : n ≤ 140737488351232) (hb : ∀ j, 0 ≤ bs j ∧ bs j ≤ 255)
    (hl : 0 < n → ∃ g off, ca = some ⟨g, off, none⟩ ∧ g < w.heap.size ∧ ∀ j, j < n → w.cell? ⟨g, off + j, none⟩ = some (.int .u8 (bs j))) :
    Calls Try.prog 27 #[.slice ca n cap] w fun e w' => ∃ v s, e = .returned v ∧ BS w' w.heap.size v s ∧ s.length ≤ 151 ∧ Below w.heap.size w w' := by
  have S0 : Hid (Src (w.alloc (.cells #[.slice ca n cap, .int .i64 0] 85)) w.heap.size ca n cap bs 0) := by
    refine ⟨heap_alloc_new _ _, hb, fun hp => ?_, hn, by omega⟩
    obtain ⟨g, off, e, hg, hc⟩ := hl hp
    exact ⟨g, off, e, by omega, fun j hj => (World.cell?_of_block (Below.heap_alloc w _ g hg)).trans (hc j hj)⟩
  clear hl hb
  go_enter Try.func27, Try.ntmps27
  go_wp2_with (fail)
  refine (source_anyG _ _ _ _).mono ?_
  rintro e w0 ⟨rfl, rfl⟩
  go_wp2_with (fail)
  refine (bentD_any S0.out (by omega)).mono ?_
  rintro e w1 ⟨v, s, t1, rfl, hbs, hl, ht, ht2, hD⟩
  have D1 : Hid (BS w1 w.heap.size v s ∧ Below w.heap.size w w1) := by
    refine ⟨(by simpa using hbs : BS w1 (w.heap.size + 1) v s).low (by omega), ?_⟩
    exact (((SaveBut.refl w.heap.size w).alloc (.cells #[.slice ca n cap, .int .i64 0] 85)).trans hD.save).below (Nat.le_refl _) (Nat.le_refl _)
  clear hbs hD S0
  go_wp2
  go_returns
  exact ⟨_, s, rfl, D1.out.1, hl, D1.out.2⟩

theorem big_anyF (ca : Option Addr) (n cap : Nat) (w : World) (hn : n ≤ maxLen) :
    Calls Try.prog 26 #[.slice ca n cap] w fun e w' => e = .returned (.bool (decide ((1048576 : Int) < n))) ∧ w' = w := by
  unfold maxLen at hn
  go_enter Try.func26, Try.ntmps26
  go_wp2
  go_returns
  exact ⟨rfl, rfl⟩

end Go.Proofs.Ytokdpgabmifdjab
