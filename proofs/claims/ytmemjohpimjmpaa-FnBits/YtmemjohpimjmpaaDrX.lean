/- Proved here: draws one by one (cut off DrH), and of floats: the source goes on, all else is as it was. -/
import Derived.Test.YtmemjohpimjmpaaDraw
import Derived.Test.YtmemjohpimjmpaaFfS
import Derived.Test.YtmemjohpimjmpaaLwS
namespace Go.Proofs.Ytmemjohpimjmpaa
open Go.RowKit
set_option linter.unusedVariables false
set_option linter.unusedSimpArgs false

/-- A world that the draws have come to: the source has gone on, all else of old is as it was. -/
structure DSi (w wr : World) (b : Nat) (ca : Option Addr) (n cap : Nat) (bs : Nat → Int) (t : Int) : Prop where
  save : SaveBut b w wr
  src : Src wr b ca n cap bs t
theorem Src.moved {w wr : World} {b : Nat} {ca : Option Addr} {n cap : Nat} {bs : Nat → Int} {t t' : Int} (h : Src w b ca n cap bs t) (hs : SaveBut b w wr) (hb : wr.heap[b]? = some (.cells #[.slice ca n cap, .int .i64 t'] 56)) (ht : 0 ≤ t') : Src wr b ca n cap bs t' := by
  refine ⟨hb, h.bytes, fun hn => ?_, h.few, ht⟩
  obtain ⟨g, off, e, hg, hc⟩ := h.lie hn
  exact ⟨g, off, e, hg, fun j hj => (World.cell?_of_block (hs.block g (lt_of_cell (hc j hj)) hg)).trans (hc j hj)⟩
theorem DSi.start {w : World} {b : Nat} {ca : Option Addr} {n cap : Nat} {bs : Nat → Int} {t : Int} (h : Src w b ca n cap bs t) : DSi w w b ca n cap bs t := ⟨SaveBut.refl _ _, h⟩
theorem DSi.only {w wr w1 : World} {b : Nat} {ca : Option Addr} {n cap : Nat} {bs : Nat → Int} {t t' : Int} (h : DSi w wr b ca n cap bs t) (hs : Src w1 b ca n cap bs t') (ho : Only b wr w1) : DSi w w1 b ca n cap bs t' := ⟨h.save.only ho, hs⟩
theorem DSi.below {w wr w1 : World} {b : Nat} {ca : Option Addr} {n cap : Nat} {bs : Nat → Int} {t : Int} (h : DSi w wr b ca n cap bs t) (hb : Below wr.heap.size wr w1) : DSi w w1 b ca n cap bs t := by
  refine ⟨⟨hb.os.trans h.save.os, hb.tape.trans h.save.tape, hb.output.trans h.save.output, Nat.le_trans h.save.size hb.size, fun k hk hg => (hb.block k (Nat.lt_of_lt_of_le hk h.save.size)).trans (h.save.block k hk hg)⟩, h.src.mono hb.block⟩
theorem DSi.alloc {w wr : World} {b : Nat} {ca : Option Addr} {n cap : Nat} {bs : Nat → Int} {t : Int} (h : DSi w wr b ca n cap bs t) (o : Obj) : DSi w (wr.alloc o) b ca n cap bs t := h.below ((Below.refl _ _).alloc (Nat.le_refl _) _)
theorem DSi.trans {w w1 w2 : World} {b : Nat} {ca : Option Addr} {n cap : Nat} {bs : Nat → Int} {t t' : Int} (h : DSi w w1 b ca n cap bs t) (k : DSi w1 w2 b ca n cap bs t') : DSi w w2 b ca n cap bs t' := ⟨h.save.trans k.save, k.src⟩
theorem chance_any {w : World} {b : Nat} {ca : Option Addr} {n cap : Nat} {bs : Nat → Int} {t : Int} (m : Int) (h : Src w b ca n cap bs t) (h1 : t ≤ 1000) (h2 : 1 ≤ m) (h3 : m ≤ 100000) :
    Calls Try.prog 32 #[.pointer (some ⟨b, 0, none⟩), .int .i64 m] w fun e w' => ∃ r, e = .returned (.bool r) ∧ Src w' b ca n cap bs (t + 1) ∧ Only b w w' := by
  have H : Hid (Src w b ca n cap bs t) := h
  clear h
  go_enter Try.func32, Try.ntmps32
  go_wp2_with (fail)
  refine (next_any _ H.out h1 h2 h3).mono ?_
  rintro e w1 ⟨r, rfl, r0, r1, hS, hO⟩
  have HS : Hid (Src w1 b ca n cap bs (t + 1)) := hS
  have HO : Hid (Only b w w1) := hO
  clear hS hO
  go_wp2
  go_returns
  exact ⟨_, rfl, HS.out, HO.out⟩

theorem source_anyI (ca : Option Addr) (n cap : Nat) (w : World) :
    Calls Try.prog 27 #[.slice ca n cap] w fun e w' => e = .returned (.pointer (some ⟨w.heap.size, 0, none⟩)) ∧ w' = w.alloc (.cells #[.slice ca n cap, .int .i64 0] 56) := by
  go_enter Try.func27, Try.ntmps27
  go_wp2
  go_returns
  exact ⟨rfl, rfl⟩


theorem SaveBut.drewN {g : Nat} {w w1 : World} (h : SaveBut g w w1) (k : Nat) : SaveBut g w (w1.drewN k) := ⟨h.os, h.tape, h.output, h.size, h.block⟩
theorem Src.drewN {w : World} {b : Nat} {ca : Option Addr} {n cap : Nat} {bs : Nat → Int} {t : Int} (h : Src w b ca n cap bs t) (k : Nat) : Src (w.drewN k) b ca n cap bs t := h.mono fun _ _ => rfl
set_option maxRecDepth 10000 in
set_option maxHeartbeats 6400000 in
theorem float_any {w : World} {b : Nat} {ca : Option Addr} {n cap : Nat} {bs : Nat → Int} {t : Int} (h : Src w b ca n cap bs t) (h1 : t ≤ 900) :
    Calls Try.prog 26 #[.pointer (some ⟨b, 0, none⟩)] w fun e w' => ∃ (x : Nat) (t' : Int), e = .returned (.float .f64 x) ∧ x < 18446744073709551616 ∧ t' ≤ t + 3 ∧ Src w' b ca n cap bs t' ∧ SaveBut b w w' := by
  have H : Hid (Src w b ca n cap bs t) := h
  clear h
  have hneg := negF_run
  go_enter Try.func26, Try.ntmps26
  go_wp2_with (fail)
  refine (next_any _ H.out (by omega) (by omega) (by omega)).mono ?_
  rintro e w1 ⟨r, rfl, r0, r1, hS, hO⟩
  have HS : Hid (Src w1 b ca n cap bs (t + 1) ∧ SaveBut b w w1) := ⟨hS, (SaveBut.refl _ _).only hO⟩
  clear hS hO
  by_cases c0 : r = 0
  · subst c0
    have hbl : b < w1.heap.size := lt_of_blk HS.out.1.blk
    go_wp2_with (fail)
    refine (next_any (t := t + 1) (bs := bs) (ca := ca) (n := n) (cap := cap) (b := b) 8 ?hs (by omega) (by omega) (by omega)).mono ?_
    case hs => exact Src.mono HS.out.1 (fun k hk => Below.heap_alloc _ _ _ (by simpa using hk))
    rintro e w2 ⟨q, rfl, q0, q1, hS2, hO2⟩
    have hL0 := heap_alloc_new (w1.drewN 0) (.cells #[] 0)
    clear hL0
    have hL := (hO2.block w1.heap.size (by omega)).trans (by first | exact heap_alloc_new _ _ | (have h9 := heap_alloc_new _ _; simpa using h9))
    have hlt := ltOf hL
    have HS2 : Hid (Src w2 b ca n cap bs (t + 1 + 1) ∧ SaveBut b w w2) := ⟨hS2, ((HS.out.2.drewN _).alloc _).only hO2⟩
    clear hS2 hO2 HS
    have hq : q = 0 ∨ q = 1 ∨ q = 2 ∨ q = 3 ∨ q = 4 ∨ q = 5 ∨ q = 6 ∨ q = 7 := by omega
    have k0 := cellOf hL 0 rfl
    have k1 := cellOf hL 1 rfl
    have k2 := cellOf hL 2 rfl
    have k3 := cellOf hL 3 rfl
    have k4 := cellOf hL 4 rfl
    have k5 := cellOf hL 5 rfl
    have k6 := cellOf hL 6 rfl
    have k7 := cellOf hL 7 rfl
    clear hL
    rcases hq with rfl | rfl | rfl | rfl | rfl | rfl | rfl | rfl
    all_goals
      go_wp2
      go_returns
      exact ⟨_, _, rfl, by first | decide | exact fres_bnd _ | exact neg_bnd (by decide), by omega, HS2.out.1, HS2.out.2⟩
  have c0' : (r == 0) = false := by simpa using c0
  have tail : True := trivial
  by_cases c1 : r = 1 ∨ r = 2
  · have c3 : (r == 1) = true ∨ ((r == 1) = false ∧ (r == 2) = true) := by
      rcases c1 with rfl | rfl
      · exact .inl rfl
      · exact .inr ⟨rfl, rfl⟩
    clear c1
    rcases c3 with c3 | ⟨c3, c4⟩
    all_goals
      go_wp2_with (fail)
      refine (next_any 9 HS.out.1 (by omega) (by omega) (by omega)).mono ?_
      rintro e w2 ⟨q, rfl, q0, q1, hS2, hO2⟩
      have HS2 : Hid (Src w2 b ca n cap bs (t + 1 + 1) ∧ SaveBut b w w2) := ⟨hS2, HS.out.2.only hO2⟩
      clear hS2 hO2
      go_wp2
      go_returns
      exact ⟨_, _, rfl, fres_bnd _, by omega, HS2.out.1.drewN _, HS2.out.2.drewN _⟩
  · have c3 : (r == 1) = false := by simp; omega
    have c4 : (r == 2) = false := by simp; omega
    go_wp2_with (fail)
    refine (next_any 20001 HS.out.1 (by omega) (by omega) (by omega)).mono ?_
    rintro e w2 ⟨q, rfl, q0, q1, hS2, hO2⟩
    have HS2 : Hid (Src w2 b ca n cap bs (t + 1 + 1) ∧ SaveBut b w w2) := ⟨hS2, HS.out.2.only hO2⟩
    clear hS2 hO2
    go_wp2_with (fail)
    refine (next_any 999 HS2.out.1 (by omega) (by omega) (by omega)).mono ?_
    rintro e w3 ⟨p, rfl, p0, p1, hS3, hO3⟩
    have HS3 : Hid (Src w3 b ca n cap bs (t + 1 + 1 + 1) ∧ SaveBut b w w3) := ⟨hS3, HS2.out.2.only hO3⟩
    clear hS3 hO3
    go_wp2
    go_returns
    exact ⟨_, _, rfl, fres_bnd _, by omega, HS3.out.1.drewN _, HS3.out.2.drewN _⟩

end Go.Proofs.Ytmemjohpimjmpaa
