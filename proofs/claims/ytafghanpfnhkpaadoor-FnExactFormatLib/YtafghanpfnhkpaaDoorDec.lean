/- Proved here: the model's decimal text of a number from 0 to 9; and, of letters alone, how a longer number's text is made of a shorter one's. -/
import Derived.Test.YtafghanpfnhkpaaDoorUnd
import Derived.Test.YtafghanpfnhkpaaDoorKept
import Derived.Test.YtafghanpfnhkpaaDoorRows
import Derived.Lib.ItoaNum
import Derived.Lib.ItoaMem
import Derived.Laws.BytesArg
namespace Go.Proofs.YtafghanpfnhkpaaDoor
open Go.RowKit
set_option linter.unusedVariables false
set_option linter.unusedSimpArgs false

/-- The letters of a number. -/
def decS (n : Nat) : ByteArray := ⟨(Lib.decDigits n).toArray⟩
theorem decS_one (n : Int) (h0 : 0 ≤ n) (h1 : n < 10) : strOfNums [48 + n] = decS n.toNat := by
  unfold strOfNums decS
  rw [Lib.decDigits_one (by omega)]
  show (⟨#[UInt8.ofNat (48 + n).toNat]⟩ : ByteArray) = ⟨#[UInt8.ofNat (48 + n.toNat)]⟩
  rw [show (48 + n).toNat = 48 + n.toNat by omega]
theorem decS_more (n : Int) (h0 : 10 ≤ n) : decS (n / 10).toNat ++ strOfNums [48 + n % 10] = decS n.toNat := by
  have e : Lib.decDigits n.toNat = Lib.decDigits (n / 10).toNat ++ [UInt8.ofNat (48 + n % 10).toNat] := by
    rw [Lib.decDigits, dif_neg (by omega), show n.toNat / 10 = (n / 10).toNat by omega, show (48 + n % 10).toNat = 48 + n.toNat % 10 by omega]
  unfold decS strOfNums
  rw [e]
  apply ByteArray.ext
  rw [ByteArray.data_append]
  simp only [List.map_cons, List.map_nil]
  rw [List.append_toArray]

theorem dec_len : ∀ (k u : Nat), u ≤ k → (Lib.decDigits u).length ≤ u + 1
  | 0, u, h => by rw [Lib.decDigits_one (by omega)]; simp
  | k + 1, u, h => by
    by_cases hu : u < 10
    · rw [Lib.decDigits_one hu]; simp
    · rw [Lib.decDigits, dif_neg hu, List.length_append]
      have := dec_len k (u / 10) (by omega)
      simp
      omega
theorem decS_size (u : Nat) : (decS u).size ≤ u + 1 := by
  have := dec_len u u (Nat.le_refl _)
  simpa [decS, ByteArray.size] using this

theorem conv_one {W : World} {L : Nat} {x : Int} (hc : W.cell? ⟨L, 0, none⟩ = some (.int .u8 x)) :
    (convert 49 9 (.slice (some ⟨L, 0, none⟩) 1 1)).run Tryd.prog W = .ok (.string (strOfNums [x])) W :=
  run_convert_bytes_arg W 49 5 Tryd.underlying49 Tryd.underlying5 L 0 1 1 [x] rfl (fun i hi => by
    obtain rfl : i = 0 := by omega
    simpa using hc) 9 Tryd.underlying9

set_option maxHeartbeats 400000 in
theorem dec_one (n : Int) (w : World) (h0 : 0 ≤ n) (h1 : n < 10) :
    Calls Tryd.prog 35 #[.int .i64 n] w fun e w' => e = .returned (.string (decS n.toNat)) ∧ Below w.heap.size w w' := by
  have hcv := conv_one (W := w.alloc (.cells #[.int .u8 (48 + n)] 5)) (L := w.heap.size) (x := 48 + n) (by simp)
  go_enter Tryd.func35, Tryd.ntmps35
  go_wp2
  go_returns
  exact ⟨by rw [← decS_one n h0 h1]; rfl, by (repeat' (first | (with_reducible exact Below.refl _ _) | (with_reducible assumption) | (with_reducible refine Below.setCell ?_ ?_ _) | (with_reducible refine Below.alloc ?_ ?_ _) | (with_reducible refine below_drewN ?_ _) | (with_reducible refine Below.drew ?_) | (with_reducible exact Nat.le_refl _) | omega | (simp; done) | (simp; omega)))⟩

end Go.Proofs.YtafghanpfnhkpaaDoor
