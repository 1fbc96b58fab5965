/- Proved here: draws one by one (cut off DrH): picks. -/
import Derived.Test.YtgjdcdhdfhkfcaaDraw
namespace Go.Proofs.Ytgjdcdhdfhkfcaa
open Go.RowKit
set_option linter.unusedVariables false
set_option linter.unusedSimpArgs false

/-- A world that the draws have come to: the source has gone on, all else of old is as it was. -/
structure DSi (w wr : World) (b : Nat) (ca : Option Addr) (n cap : Nat) (bs : Nat → Int) (t : Int) : Prop where
  save : SaveBut b w wr
  src : Src wr b ca n cap bs t
theorem Src.moved {w wr : World} {b : Nat} {ca : Option Addr} {n cap : Nat} {bs : Nat → Int} {t t' : Int} (h : Src w b ca n cap bs t) (hs : SaveBut b w wr) (hb : wr.heap[b]? = some (.cells #[.slice ca n cap, .int .i64 t'] 86)) (ht : 0 ≤ t') : Src wr b ca n cap bs t' := by
  refine ⟨hb, h.bytes, fun hn => ?_, h.few, ht⟩
  obtain ⟨g, off, e, hg, hc⟩ := h.lie hn
  exact ⟨g, off, e, hg, fun j hj => (World.cell?_of_block (hs.block g (lt_of_cell (hc j hj)) hg)).trans (hc j hj)⟩
theorem DSi.start {w : World} {b : Nat} {ca : Option Addr} {n cap : Nat} {bs : Nat → Int} {t : Int} (h : Src w b ca n cap bs t) : DSi w w b ca n cap bs t := ⟨SaveBut.refl _ _, h⟩
theorem DSi.only {w wr w1 : World} {b : Nat} {ca : Option Addr} {n cap : Nat} {bs : Nat → Int} {t t' : Int} (h : DSi w wr b ca n cap bs t) (hs : Src w1 b ca n cap bs t') (ho : Only b wr w1) : DSi w w1 b ca n cap bs t' := ⟨h.save.only ho, hs⟩
theorem DSi.below {w wr w1 : World} {b : Nat} {ca : Option Addr} {n cap : Nat} {bs : Nat → Int} {t : Int} (h : DSi w wr b ca n cap bs t) (hb : Below wr.heap.size wr w1) : DSi w w1 b ca n cap bs t := by
  refine ⟨⟨hb.os.trans h.save.os, hb.tape.trans h.save.tape, hb.output.trans h.save.output, Nat.le_trans h.save.size hb.size, fun k hk hg => (hb.block k (Nat.lt_of_lt_of_le hk h.save.size)).trans (h.save.block k hk hg)⟩, h.src.mono hb.block⟩
theorem DSi.alloc {w wr : World} {b : Nat} {ca : Option Addr} {n cap : Nat} {bs : Nat → Int} {t : Int} (h : DSi w wr b ca n cap bs t) (o : Obj) : DSi w (wr.alloc o) b ca n cap bs t := h.below ((Below.refl _ _).alloc (Nat.le_refl _) _)
theorem DSi.trans {w w1 w2 : World} {b : Nat} {ca : Option Addr} {n cap : Nat} {bs : Nat → Int} {t t' : Int} (h : DSi w w1 b ca n cap bs t) (k : DSi w1 w2 b ca n cap bs t') : DSi w w2 b ca n cap bs t' := ⟨h.save.trans k.save, k.src⟩
theorem pick_in {w : World} {b : Nat} {ca : Option Addr} {n cap : Nat} {bs : Nat → Int} {t : Int} (L N c : Nat) (f : Nat → Int) (h : Src w b ca n cap bs t) (h1 : t ≤ 1000) (hN : 1 ≤ N) (hN' : N ≤ 1000) (hL : L ≠ b) (hc : ∀ j, j < N → w.cell? ⟨L, j, none⟩ = some (.int .i64 (f j))) :
    Calls Try.prog 40 #[.pointer (some ⟨b, 0, none⟩), .slice (some ⟨L, 0, none⟩) N c] w fun e w' => ∃ j, j < N ∧ e = .returned (.int .i64 (f j)) ∧ Src w' b ca n cap bs (t + 1) ∧ Only b w w' := by
  have H : Hid (Src w b ca n cap bs t) := h
  have HC : Hid _ := hc
  clear h hc
  go_enter Try.func40, Try.ntmps40
  go_wp2_with (fail)
  refine (next_any _ H.out h1 (by omega) (by omega)).mono ?_
  rintro e w1 ⟨r, rfl, r0, r1, hS, hO⟩
  have hcell : w1.cell? ⟨L, r.toNat, none⟩ = some (.int .i64 (f r.toNat)) := (World.cell?_of_block (hO.block L hL)).trans (HC.out r.toNat (by omega))
  have HS : Hid (Src w1 b ca n cap bs (t + 1)) := hS
  have HO : Hid (Only b w w1) := hO
  clear hS hO
  go_wp2
  go_returns
  exact ⟨r.toNat, by omega, rfl, HS.out, HO.out⟩

theorem six_at {w : World} {k : Nat} {a b c d e f : Int} {T : TypeId} (h : w.heap[k]? = some (.cells #[.int .i64 a, .int .i64 b, .int .i64 c, .int .i64 d, .int .i64 e, .int .i64 f] T)) : ∀ j, j < 6 → w.cell? ⟨k, j, none⟩ = some (.int .i64 ([a, b, c, d, e, f].getD j 0)) := by
  intro j hj
  simp only [World.cell?, h]
  match j, hj with
  | 0, _ => rfl
  | 1, _ => rfl
  | 2, _ => rfl
  | 3, _ => rfl
  | 4, _ => rfl
  | 5, _ => rfl

theorem source_anyI (ca : Option Addr) (n cap : Nat) (w : World) :
    Calls Try.prog 39 #[.slice ca n cap] w fun e w' => e = .returned (.pointer (some ⟨w.heap.size, 0, none⟩)) ∧ w' = w.alloc (.cells #[.slice ca n cap, .int .i64 0] 86) := by
  go_enter Try.func39, Try.ntmps39
  go_wp2
  go_returns
  exact ⟨rfl, rfl⟩

end Go.Proofs.Ytgjdcdhdfhkfcaa
