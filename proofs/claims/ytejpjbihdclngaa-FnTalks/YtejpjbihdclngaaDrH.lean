/- Proved here: draws of numbers one by one: the source goes on, all else is as it was; picks, chances. -/
import Derived.Test.YtejpjbihdclngaaDraw
import Derived.Test.YtejpjbihdclngaaNlJ
import Derived.Deep.AppendLies
namespace Go.Proofs.Ytejpjbihdclngaa
open Go.RowKit
set_option linter.unusedVariables false
set_option linter.unusedSimpArgs false

/-- A world that the draws have come to: the source has gone on, all else of old is as it was. -/
structure DSi (w wr : World) (b : Nat) (ca : Option Addr) (n cap : Nat) (bs : Nat → Int) (t : Int) : Prop where
  save : SaveBut b w wr
  src : Src wr b ca n cap bs t
theorem Src.moved {w wr : World} {b : Nat} {ca : Option Addr} {n cap : Nat} {bs : Nat → Int} {t t' : Int} (h : Src w b ca n cap bs t) (hs : SaveBut b w wr) (hb : wr.heap[b]? = some (.cells #[.slice ca n cap, .int .i64 t'] 84)) (ht : 0 ≤ t') : Src wr b ca n cap bs t' := by
  refine ⟨hb, h.bytes, fun hn => ?_, h.few, ht⟩
  obtain ⟨g, off, e, hg, hc⟩ := h.lie hn
  exact ⟨g, off, e, hg, fun j hj => (World.cell?_of_block (hs.block g (lt_of_cell (hc j hj)) hg)).trans (hc j hj)⟩
theorem DSi.start {w : World} {b : Nat} {ca : Option Addr} {n cap : Nat} {bs : Nat → Int} {t : Int} (h : Src w b ca n cap bs t) : DSi w w b ca n cap bs t := ⟨SaveBut.refl _ _, h⟩
theorem DSi.only {w wr w1 : World} {b : Nat} {ca : Option Addr} {n cap : Nat} {bs : Nat → Int} {t t' : Int} (h : DSi w wr b ca n cap bs t) (hs : Src w1 b ca n cap bs t') (ho : Only b wr w1) : DSi w w1 b ca n cap bs t' := ⟨h.save.only ho, hs⟩
theorem DSi.below {w wr w1 : World} {b : Nat} {ca : Option Addr} {n cap : Nat} {bs : Nat → Int} {t : Int} (h : DSi w wr b ca n cap bs t) (hb : Below wr.heap.size wr w1) : DSi w w1 b ca n cap bs t := by
  refine ⟨⟨hb.os.trans h.save.os, hb.tape.trans h.save.tape, hb.output.trans h.save.output, Nat.le_trans h.save.size hb.size, fun k hk hg => (hb.block k (Nat.lt_of_lt_of_le hk h.save.size)).trans (h.save.block k hk hg)⟩, h.src.mono hb.block⟩
theorem DSi.alloc {w wr : World} {b : Nat} {ca : Option Addr} {n cap : Nat} {bs : Nat → Int} {t : Int} (h : DSi w wr b ca n cap bs t) (o : Obj) : DSi w (wr.alloc o) b ca n cap bs t := h.below ((Below.refl _ _).alloc (Nat.le_refl _) _)
theorem DSi.trans {w w1 w2 : World} {b : Nat} {ca : Option Addr} {n cap : Nat} {bs : Nat → Int} {t t' : Int} (h : DSi w w1 b ca n cap bs t) (k : DSi w1 w2 b ca n cap bs t') : DSi w w2 b ca n cap bs t' := ⟨h.save.trans k.save, k.src⟩
/-- Blocks of the call's own are written. -/
theorem DSi.write {w wr w1 : World} {b : Nat} {ca : Option Addr} {n cap : Nat} {bs : Nat → Int} {t0 t : Int} (h0 : Src w b ca n cap bs t0) (h : DSi w wr b ca n cap bs t) (hos : w1.os = wr.os) (htp : w1.tape = wr.tape) (hout : w1.output = wr.output) (hsz : wr.heap.size ≤ w1.heap.size)
    (hb : ∀ k, k < w.heap.size → w1.heap[k]? = wr.heap[k]?) : DSi w w1 b ca n cap bs t := by
  have hs : SaveBut b w w1 := ⟨hos.trans h.save.os, htp.trans h.save.tape, hout.trans h.save.output, Nat.le_trans h.save.size hsz, fun k hk hg => (hb k hk).trans (h.save.block k hk hg)⟩
  exact ⟨hs, h0.moved hs ((hb b (lt_of_blk h0.blk)).trans h.src.blk) h.src.t0⟩
theorem DSi.grown {w wr w1 : World} {b : Nat} {ca : Option Addr} {n cap : Nat} {bs : Nat → Int} {t0 t : Int} {row : Option Nat} {ob : Obj} (h0 : Src w b ca n cap bs t0) (h : DSi w wr b ca n cap bs t) (hg : (wr.alloc ob).grownBy w1 row) (hr : ∀ k, row = some k → w.heap.size ≤ k) : DSi w w1 b ca n cap bs t := by
  have hsz := h.save.size
  refine h.write h0 hg.os hg.tape hg.output (Nat.le_trans (by simp) hg.size) fun k hk => ?_
  rw [hg.block k (by simp; omega) (fun e => by have := hr k e.symm; omega)]
  exact Below.heap_alloc _ _ _ (by omega)
theorem IS.saveI {w w' : World} {B b : Nat} {v : Value} {s : List Int} (h : IS w B v s) (hb : b < B) (hs : SaveBut b w w') : IS w' B v s :=
  h.kept fun g hg => hs.block g (IS.lt h g hg).2 (by have := (IS.lt h g hg).1; omega)

set_option maxHeartbeats 800000 in
/-- A pick is one of the numbers. -/
theorem pick_in {w : World} {b : Nat} {ca : Option Addr} {n cap : Nat} {bs : Nat → Int} {t : Int} (L N c : Nat) (f : Nat → Int) (h : Src w b ca n cap bs t) (h1 : t ≤ 1000) (hN : 1 ≤ N) (hN' : N ≤ 1000) (hL : L ≠ b) (hc : ∀ j, j < N → w.cell? ⟨L, j, none⟩ = some (.int .i64 (f j))) :
    Calls Try.prog 45 #[.pointer (some ⟨b, 0, none⟩), .slice (some ⟨L, 0, none⟩) N c] w fun e w' => ∃ j, j < N ∧ e = .returned (.int .i64 (f j)) ∧ Src w' b ca n cap bs (t + 1) ∧ Only b w w' := by
  have H : Hid (Src w b ca n cap bs t) := h
  have HC : Hid _ := hc
  clear h hc
  go_enter Try.func45, Try.ntmps45
  go_wp2_with (fail)
  refine (next_any _ H.out h1 (by omega) (by omega)).mono ?_
  rintro e w1 ⟨r, rfl, r0, r1, hS, hO⟩
  have hcell : w1.cell? ⟨L, r.toNat, none⟩ = some (.int .i64 (f r.toNat)) := (World.cell?_of_block (hO.block L hL)).trans (HC.out r.toNat (by omega))
  have HS : Hid (Src w1 b ca n cap bs (t + 1)) := hS
  have HO : Hid (Only b w w1) := hO
  clear hS hO
  go_wp2
  go_returns
  exact ⟨r.toNat, by omega, rfl, HS.out, HO.out⟩

set_option maxHeartbeats 800000 in
theorem chance_any {w : World} {b : Nat} {ca : Option Addr} {n cap : Nat} {bs : Nat → Int} {t : Int} (m : Int) (h : Src w b ca n cap bs t) (h1 : t ≤ 1000) (h2 : 1 ≤ m) (h3 : m ≤ 100000) :
    Calls Try.prog 46 #[.pointer (some ⟨b, 0, none⟩), .int .i64 m] w fun e w' => ∃ r, e = .returned (.bool r) ∧ Src w' b ca n cap bs (t + 1) ∧ Only b w w' := by
  have H : Hid (Src w b ca n cap bs t) := h
  clear h
  go_enter Try.func46, Try.ntmps46
  go_wp2_with (fail)
  refine (next_any _ H.out h1 h2 h3).mono ?_
  rintro e w1 ⟨r, rfl, r0, r1, hS, hO⟩
  have HS : Hid (Src w1 b ca n cap bs (t + 1)) := hS
  have HO : Hid (Only b w w1) := hO
  clear hS hO
  go_wp2
  go_returns
  exact ⟨_, rfl, HS.out, HO.out⟩

theorem IS.snocD {w : World} {B : Nat} {v : Value} {xs : List Int} {y : Int} (h : w.ownsRow B 2 1 v (xs.length + 1) (xs.map (Value.int .i64) ++ [.int .i64 y])) : IS w B v (xs ++ [y]) := by
  unfold IS
  rw [List.length_append, List.map_append]
  exact h
theorem six_at {w : World} {k : Nat} {a b c d e f : Int} {T : TypeId} (h : w.heap[k]? = some (.cells #[.int .i64 a, .int .i64 b, .int .i64 c, .int .i64 d, .int .i64 e, .int .i64 f] T)) : ∀ j, j < 6 → w.cell? ⟨k, j, none⟩ = some (.int .i64 ([a, b, c, d, e, f].getD j 0)) := by
  intro j hj
  simp only [World.cell?, h]
  match j, hj with
  | 0, _ => rfl
  | 1, _ => rfl
  | 2, _ => rfl
  | 3, _ => rfl
  | 4, _ => rfl
  | 5, _ => rfl

theorem source_anyI (ca : Option Addr) (n cap : Nat) (w : World) :
    Calls Try.prog 43 #[.slice ca n cap] w fun e w' => e = .returned (.pointer (some ⟨w.heap.size, 0, none⟩)) ∧ w' = w.alloc (.cells #[.slice ca n cap, .int .i64 0] 84) := by
  go_enter Try.func43, Try.ntmps43
  go_wp2
  go_returns
  exact ⟨rfl, rfl⟩

end Go.Proofs.Ytejpjbihdclngaa
