/- Proved here: the model's draws: the next number out of a source of bytes lies below the bound that is asked, and the source goes on by one. -/
import Derived.Test.YtejpjbihdclngaaIntsBase
namespace Go.Proofs.Ytejpjbihdclngaa
open Go.RowKit
set_option linter.unusedVariables false
set_option linter.unusedSimpArgs false

set_option maxHeartbeats 800000 in
theorem next_zero (b cap : Nat) (ca : Option Addr) (t m : Int) (w : World) (h0 : 0 ≤ t) (h1 : t ≤ 1000) (h2 : 1 ≤ m) (h3 : m ≤ 100000)
    (c0 : w.cell? ⟨b, 0, none⟩ = some (.slice ca 0 cap)) (c1 : w.cell? ⟨b, 1, none⟩ = some (.int .i64 t)) (f1 : w.frozen? ⟨b, 1, none⟩ = false) :
    Calls Try.prog 44 #[.pointer (some ⟨b, 0, none⟩), .int .i64 m] w fun e w' => ∃ r k, e = .returned (.int .i64 r) ∧ 0 ≤ r ∧ r < m ∧ w' = (w.setCell ⟨b, 1, none⟩ (.int .i64 (t + 1))).drewN k := by
  have hm : (m == 0) = false := by simp; omega
  go_enter Try.func44, Try.ntmps44
  go_wp2
  go_returns
  exact ⟨_, 0, rfl, Int.emod_nonneg _ (by omega), Int.emod_lt_of_pos _ (by omega), rfl⟩

set_option maxHeartbeats 800000 in
theorem next_pos (b cap n g off : Nat) (bs : Nat → Int) (t m : Int) (w : World) (h0 : 0 ≤ t) (h1 : t ≤ 1000) (h2 : 1 ≤ m) (h3 : m ≤ 100000) (hn : 0 < n) (hn' : n ≤ 140737488351232) (hb : ∀ j, 0 ≤ bs j ∧ bs j ≤ 255)
    (c0 : w.cell? ⟨b, 0, none⟩ = some (.slice (some ⟨g, off, none⟩) n cap)) (c1 : w.cell? ⟨b, 1, none⟩ = some (.int .i64 t)) (f1 : w.frozen? ⟨b, 1, none⟩ = false)
    (hg : g ≠ b) (hc : ∀ j, j < n → w.cell? ⟨g, off + j, none⟩ = some (.int .u8 (bs j))) :
    Calls Try.prog 44 #[.pointer (some ⟨b, 0, none⟩), .int .i64 m] w fun e w' => ∃ r k, e = .returned (.int .i64 r) ∧ 0 ≤ r ∧ r < m ∧ w' = (w.setCell ⟨b, 1, none⟩ (.int .i64 (t + 1))).drewN k := by
  have hm : (m == 0) = false := by simp; omega
  have hnz : ((n : Int) == 0) = false := by simp; omega
  have i1 : 0 ≤ t % (n : Int) := Int.emod_nonneg _ (by omega)
  have i2 : t % (n : Int) < n := Int.emod_lt_of_pos _ (by omega)
  have i3 : 0 ≤ (t + 1) % (n : Int) := Int.emod_nonneg _ (by omega)
  have i4 : (t + 1) % (n : Int) < n := Int.emod_lt_of_pos _ (by omega)
  have x1 := hc (t % (n : Int)).toNat (by omega)
  have x2 := hc ((t + 1) % (n : Int)).toNat (by omega)
  have y1 : (w.setCell ⟨b, 1, none⟩ (.int .i64 (t + 1))).cell? ⟨g, off + (t % (n : Int)).toNat, none⟩ = some (.int .u8 (bs (t % (n : Int)).toNat)) := by rw [World.cell?_setCell_other _ _ _ _ (by simp [hg])]; exact x1
  have y2 : (w.setCell ⟨b, 1, none⟩ (.int .i64 (t + 1))).cell? ⟨g, off + ((t + 1) % (n : Int)).toNat, none⟩ = some (.int .u8 (bs ((t + 1) % (n : Int)).toNat)) := by rw [World.cell?_setCell_other _ _ _ _ (by simp [hg])]; exact x2
  have z1 := hb (t % (n : Int)).toNat
  have z2 := hb ((t + 1) % (n : Int)).toNat
  have d1 : 0 ≤ t / (n : Int) := Int.ediv_nonneg h0 (by omega)
  have d2 : t / (n : Int) ≤ 1000 := Int.le_trans (Int.ediv_le_self _ h0) h1
  generalize bs (t % (n : Int)).toNat = u1 at *
  generalize bs ((t + 1) % (n : Int)).toNat = u2 at *
  clear hc x1 x2 hb
  go_enter Try.func44, Try.ntmps44
  go_wp2
  by_cases hbig : 200 < m
  · go_quiet (fail)
    go_wp2
    go_quiet (fail)
    go_wp2
    go_returns
    exact ⟨_, _, rfl, Int.emod_nonneg _ (by omega), Int.emod_lt_of_pos _ (by omega), rfl⟩
  · go_quiet (fail)
    go_wp2
    go_returns
    first | exact ⟨_, _, rfl, Int.emod_nonneg _ (by omega), Int.emod_lt_of_pos _ (by omega), rfl⟩ | exact ⟨_, rfl, Int.emod_nonneg _ (by omega), Int.emod_lt_of_pos _ (by omega), _, rfl⟩

/-- A source of bytes in block b, t numbers of which have been asked for. -/
structure Src (w : World) (b : Nat) (ca : Option Addr) (n cap : Nat) (bs : Nat → Int) (t : Int) : Prop where
  blk : w.heap[b]? = some (.cells #[.slice ca n cap, .int .i64 t] 84)
  bytes : ∀ j, 0 ≤ bs j ∧ bs j ≤ 255
  lie : 0 < n → ∃ g off, ca = some ⟨g, off, none⟩ ∧ g ≠ b ∧ ∀ j, j < n → w.cell? ⟨g, off + j, none⟩ = some (.int .u8 (bs j))
  few : n ≤ 140737488351232
  t0 : 0 ≤ t

theorem lt_of_cell {w : World} {g o : Nat} {v : Value} (h : w.cell? ⟨g, o, none⟩ = some v) : g < w.heap.size := World.block_lt_of_cell? w _ h
theorem lt_of_blk {V : World} {k : Nat} {o : Obj} (h : V.heap[k]? = some o) : k < V.heap.size := by
  rcases Nat.lt_or_ge k V.heap.size with h' | h'
  · exact h'
  · rw [Array.getElem?_eq_none h'] at h; cases h

theorem Src.mono {w w' : World} {b : Nat} {ca : Option Addr} {n cap : Nat} {bs : Nat → Int} {t : Int} (h : Src w b ca n cap bs t) (hb : ∀ k, k < w.heap.size → w'.heap[k]? = w.heap[k]?) : Src w' b ca n cap bs t := by
  refine ⟨(hb b (lt_of_blk h.blk)).trans h.blk, h.bytes, fun hn => ?_, h.few, h.t0⟩
  obtain ⟨g, off, e, hg, hc⟩ := h.lie hn
  exact ⟨g, off, e, hg, fun j hj => (World.cell?_of_block (hb g (lt_of_cell (hc j hj)))).trans (hc j hj)⟩

theorem Only.drewN {g : Nat} {w w' : World} (h : Only g w w') (k : Nat) : Only g w (w'.drewN k) := ⟨h.os, h.tape, h.output, h.size, h.block⟩

theorem next_any {w : World} {b : Nat} {ca : Option Addr} {n cap : Nat} {bs : Nat → Int} {t : Int} (m : Int) (h : Src w b ca n cap bs t) (h1 : t ≤ 1000) (h2 : 1 ≤ m) (h3 : m ≤ 100000) :
    Calls Try.prog 44 #[.pointer (some ⟨b, 0, none⟩), .int .i64 m] w fun e w' => ∃ r, e = .returned (.int .i64 r) ∧ 0 ≤ r ∧ r < m ∧ Src w' b ca n cap bs (t + 1) ∧ Only b w w' := by
  have c0 : w.cell? ⟨b, 0, none⟩ = some (.slice ca n cap) := by simp [World.cell?, h.blk]
  have c1 : w.cell? ⟨b, 1, none⟩ = some (.int .i64 t) := by simp [World.cell?, h.blk]
  have f1 : w.frozen? ⟨b, 1, none⟩ = false := by simp [World.frozen?, h.blk]
  have post : ∀ k, Src ((w.setCell ⟨b, 1, none⟩ (.int .i64 (t + 1))).drewN k) b ca n cap bs (t + 1) ∧ Only b w ((w.setCell ⟨b, 1, none⟩ (.int .i64 (t + 1))).drewN k) := by
    intro k
    refine ⟨⟨?_, h.bytes, fun hn => ?_, h.few, by have := h.t0; omega⟩, ((Only.refl b w).set 1 _).drewN k⟩
    · exact heap_setCell_same w b 1 _ _ _ h.blk
    · obtain ⟨g, off, e, hg, hc⟩ := h.lie hn
      exact ⟨g, off, e, hg, fun j hj => (World.cell?_of_block (heap_setCell_other w ⟨b, 1, none⟩ g _ hg)).trans (hc j hj)⟩
  rcases Nat.eq_zero_or_pos n with hn | hn
  · subst hn
    refine (next_zero b cap ca t m w h.t0 h1 h2 h3 c0 c1 f1).mono ?_
    rintro e w' ⟨r, k, rfl, r0, r1, rfl⟩
    exact ⟨r, rfl, r0, r1, (post k).1, (post k).2⟩
  · obtain ⟨g, off, rfl, hg, hc⟩ := h.lie hn
    refine (next_pos b cap n g off bs t m w h.t0 h1 h2 h3 hn h.few h.bytes c0 c1 f1 hg hc).mono ?_
    rintro e w' ⟨r, k, rfl, r0, r1, rfl⟩
    exact ⟨r, rfl, r0, r1, (post k).1, (post k).2⟩

/-- What was there is there still, but for block g. -/
structure SaveBut (g : Nat) (w w' : World) : Prop where
  os : w'.os = w.os
  tape : w'.tape = w.tape
  output : w'.output = w.output
  size : w.heap.size ≤ w'.heap.size
  block : ∀ k, k < w.heap.size → k ≠ g → w'.heap[k]? = w.heap[k]?
theorem SaveBut.refl (g : Nat) (w : World) : SaveBut g w w := ⟨rfl, rfl, rfl, Nat.le_refl _, fun _ _ _ => rfl⟩
theorem SaveBut.only {g : Nat} {w w1 w2 : World} (h : SaveBut g w w1) (k : Only g w1 w2) : SaveBut g w w2 :=
  ⟨k.os.trans h.os, k.tape.trans h.tape, k.output.trans h.output, by rw [k.size]; exact h.size, fun j hj hg => (k.block j hg).trans (h.block j hj hg)⟩
theorem SaveBut.alloc {g : Nat} {w w1 : World} (h : SaveBut g w w1) (o : Obj) : SaveBut g w (w1.alloc o) :=
  ⟨h.os, h.tape, h.output, by have := h.size; simp; omega, fun j hj hg => (Below.heap_alloc _ _ _ (Nat.lt_of_lt_of_le hj h.size)).trans (h.block j hj hg)⟩
theorem SaveBut.trans {g : Nat} {w w1 w2 : World} (h : SaveBut g w w1) (k : SaveBut g w1 w2) : SaveBut g w w2 :=
  ⟨k.os.trans h.os, k.tape.trans h.tape, k.output.trans h.output, Nat.le_trans h.size k.size, fun j hj hg => (k.block j (Nat.lt_of_lt_of_le hj h.size) hg).trans (h.block j hj hg)⟩
theorem SaveBut.below {g B : Nat} {w w' : World} (h : SaveBut g w w') (hg : B ≤ g) (hB : B ≤ w.heap.size) : Below B w w' :=
  ⟨h.os, h.tape, h.output, h.size, fun k hk => h.block k (by omega) (by omega)⟩

end Go.Proofs.Ytejpjbihdclngaa
