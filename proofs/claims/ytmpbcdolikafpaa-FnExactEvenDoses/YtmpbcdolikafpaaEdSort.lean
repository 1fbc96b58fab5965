/- Proved here: the program's list of edges: those of both lists, sorted by their places; by the library's contract of slices.SortFunc. -/
import Derived.Test.YtmpbcdolikafpaaICut
import Derived.Test.YtmpbcdolikafpaaBoxBase
import Derived.Test.YtmpbcdolikafpaaRowPut
import Derived.Test.YtmpbcdolikafpaaSort
namespace Go.Proofs.Ytmpbcdolikafpaa
open Go.RowKit Go.Sort Go.Shelf Go.Lib
set_option linter.unusedVariables false
set_option linter.unusedSimpArgs false

/-- What cmp.Compare says of two whole numbers. -/
def cmpK (x y : Int) : Int := if x < y then -1 else if y < x then 1 else 0

set_option maxHeartbeats 800000 in
theorem lib_isNaN (x : Int) (w : World) : Calls Try.prog 69 #[.int .i64 x] w fun e w' => e = .returned (.bool false) ∧ w' = w := by
  go_enter Try.func69, Try.ntmps69
  go_wp2
  go_returns
  exact ⟨by simp, rfl⟩

set_option maxHeartbeats 800000 in
theorem lib_compare (x y : Int) (w : World) : Calls Try.prog 65 #[.int .i64 x, .int .i64 y] w fun e w' => e = .returned (.int .i64 (cmpK x y)) ∧ w' = w := by
  have hx := fun w => lib_isNaN x w
  have hy := fun w => lib_isNaN y w
  have H : Hid ((x < y → cmpK x y = -1) ∧ (¬ x < y → y < x → cmpK x y = 1) ∧ (¬ x < y → ¬ y < x → cmpK x y = 0)) := by
    unfold Hid cmpK
    refine ⟨fun h => by simp [h], fun h1 h2 => by simp [h1, h2], fun h1 h2 => by simp [h1, h2]⟩
  generalize cmpK x y = r at H ⊢
  by_cases h1 : x < y
  · obtain rfl := H.out.1 h1
    go_enter Try.func65, Try.ntmps65
    go_wp2_with (fail)
    refine (hx _).mono ?_
    rintro e w1 ⟨rfl, rfl⟩
    go_wp2_with (fail)
    refine (hy _).mono ?_
    rintro e w2 ⟨rfl, rfl⟩
    go_wp2
    go_returns
    exact ⟨rfl, rfl⟩
  by_cases h2 : y < x
  · obtain rfl := H.out.2.1 h1 h2
    go_enter Try.func65, Try.ntmps65
    go_wp2_with (fail)
    refine (hx _).mono ?_
    rintro e w1 ⟨rfl, rfl⟩
    go_wp2_with (fail)
    refine (hy _).mono ?_
    rintro e w2 ⟨rfl, rfl⟩
    go_wp2
    go_returns
    exact ⟨rfl, rfl⟩
  · obtain rfl := H.out.2.2 h1 h2
    go_enter Try.func65, Try.ntmps65
    go_wp2_with (fail)
    refine (hx _).mono ?_
    rintro e w1 ⟨rfl, rfl⟩
    go_wp2_with (fail)
    refine (hy _).mono ?_
    rintro e w2 ⟨rfl, rfl⟩
    go_wp2
    go_returns
    exact ⟨rfl, rfl⟩

set_option maxHeartbeats 1000000 in
theorem ed_closure (x y : Ed) (W : World) : Calls Try.prog 64 #[.agg #[.int .i64 x.x, .int .i64 x.y0, .int .i64 x.y1, .int .i64 x.f, .int .i64 x.s], .agg #[.int .i64 y.x, .int .i64 y.y0, .int .i64 y.y1, .int .i64 y.f, .int .i64 y.s]] W fun e w' => e = .returned (.int .i64 (cmpK x.x y.x)) ∧ ∃ q os', w' = grow (W.drewN q) os' := by
  have hcon := fun W' => lib_compare x.x y.x W'
  generalize cmpK x.x y.x = r at hcon ⊢
  go_enter Try.func64, Try.ntmps64
  go_wp2_with (fail)
  refine (hcon _).mono ?_
  rintro e w1 ⟨rfl, rfl⟩
  go_wp2
  go_returns
  exact ⟨rfl, 0, _, by rw [alloc_eq_grow, alloc_eq_grow, grow_grow]; rfl⟩

/-- An edge as five numbers. -/
abbrev Q5 := Int × Int × Int × Int × Int
def qe (t : Q5) : Ed := ⟨t.1, t.2.1, t.2.2.1, t.2.2.2.1, t.2.2.2.2⟩
def eq5 (e : Ed) : Q5 := (e.x, e.y0, e.y1, e.f, e.s)
theorem qe_eq5 (e : Ed) : qe (eq5 e) = e := rfl
def encQ (t : Q5) : List Value := ecells (qe t)

theorem ed_lays (blk off size : Nat) (w : World) : CmpLays Try.prog 64 #[] encQ 5 (fun x y => cmpK x.1 y.1) blk off size w :=
  fun _ _ _ _ x y => ed_closure (qe x) (qe y) _

theorem ed_lt (x y : Q5) : Go.Proofs.ltOf (fun x y : Q5 => cmpK x.1 y.1) x y = decide (x.1 < y.1) := by
  unfold Go.Proofs.ltOf cmpK
  by_cases h1 : x.1 < y.1
  · simp [h1]
  · by_cases h2 : y.1 < x.1 <;> simp [h1, h2]
theorem ed_swo : SWO (Go.Proofs.ltOf fun x y : Q5 => cmpK x.1 y.1) := by
  refine ⟨fun x => ?_, fun x y z h1 h2 => ?_, fun x y z h1 h2 => ?_⟩
  · rw [ed_lt]; simp
  · rw [ed_lt] at *; simp at *; omega
  · rw [ed_lt] at *; simp at *; omega

theorem flat_ed (d : Array Q5) : flatK encQ 5 d = (eflat (d.toList.map qe)).toArray := by
  apply Array.ext_getElem?
  intro t
  have hl : (eflat (d.toList.map qe)).length = d.size * 5 := by rw [eflat_length]; simp
  rcases Nat.lt_or_ge t (d.size * 5) with h | h
  · have h1 : t / 5 < d.size := by omega
    have e : t = (t / 5) * 5 + t % 5 := by omega
    have hg := get_flatK encQ 5 d t h
    rw [Array.getElem?_eq_getElem (by simpa using h)]
    rw [getElem!_pos _ _ (by simpa using h)] at hg
    rw [hg]
    rw [List.getElem?_toArray]
    conv => rhs; rw [e]
    rw [eflat_get _ (t / 5) (t % 5) (by simpa using h1) (by omega)]
    have e2 : eat (d.toList.map qe) (t / 5) = qe d[t / 5]! := by
      rw [eat_get (by simpa using h1)]
      simp [h1]
    rw [e2]
    have h5 : t % 5 < 5 := by omega
    unfold encQ
    have hlen : (ecells (qe d[t / 5]!)).length = 5 := rfl
    rw [List.getElem?_eq_getElem (by rw [hlen]; exact h5), List.getElem!_eq_getElem?_getD, List.getElem?_eq_getElem (by rw [hlen]; exact h5)]
    rfl
  · rw [Array.getElem?_eq_none (by simpa using h), List.getElem?_toArray, List.getElem?_eq_none (by omega)]

theorem ed_sort {w : World} {B g n cap : Nat} {E : List Ed} (h : ES w B (.slice (some ⟨g, 0, none⟩) n cap) E) (hn : n = E.length) (hs : n ≤ 1000000) :
    Calls Try.prog 63 #[.slice (some ⟨g, 0, none⟩) n cap, .func (.func 64) #[] #[]] w fun e w' => e = .returned (.tuple #[]) ∧ ∃ E', E'.Perm E ∧ Rising E' ∧ ES w' B (.slice (some ⟨g, 0, none⟩) n cap) E' ∧ Below B w w' := by
  have hlt := World.ownsRow.lt h g rfl
  subst hn
  obtain ⟨d, hd⟩ : ∃ d : Array Q5, d = (E.map eq5).toArray := ⟨_, rfl⟩
  have hdE : d.toList.map qe = E := by
    rw [hd]
    simp only [List.map_map]
    have : (qe ∘ eq5) = id := by funext e; rfl
    rw [this, List.map_id]
  have hds : d.size = E.length := by rw [hd]; simp
  have eg : ∀ args w, (callFunc 64 args).run Try.prog w = .ok (.enter 64 args) w := fun args w => enter_of Try.func64 (by kernel_rfl) rfl args w
  have hH : HoldsK encQ 5 w g 0 d := by
    unfold HoldsK
    rw [flat_ed, hdE]
    exact owns_holds h
  have hcon := AnyQ.slices_SortFunc Try.sortEd 5 Try.isAgg94 Try.sizeOf94 encQ (fun _ => rfl) (fun x v hv => by simp [encQ, ecells] at hv; rcases hv with rfl | rfl | rfl | rfl | rfl <;> rfl) (fun x y => cmpK x.1 y.1) ed_swo 64 #[] g 0 cap d w eg (ed_lays g 0 d.size w) hH hlt.2 (by omega)
  rw [hds] at hcon
  change Calls Try.prog 63 _ _ _ at hcon
  refine hcon.mono ?_
  rintro e w' ⟨rfl, d', n, os, hp, hso, rfl⟩
  have hsz : d'.size = E.length := hp.1.trans hds
  have hw : sortWorldK encQ 5 w g 0 n d' os = grow (putRow id (Sort.ahead w n) g 0 (eflat (d'.toList.map qe)).toArray) os := by
    unfold sortWorldK putRowK
    rw [flat_ed]
  rw [hw]
  refine ⟨rfl, d'.toList.map qe, ?_, ?_, ?_, ?_⟩
  · have h3 := hp.2.2
    rw [← hds] at h3
    have e1 : d.extract 0 d.size = d := by simp
    have e2 : d'.extract 0 d.size = d' := by rw [hds, ← hsz]; simp
    rw [e1, e2] at h3
    have := h3.map qe
    rw [hdE] at this
    exact this
  · unfold Rising
    rw [List.pairwise_iff_getElem]
    intro i j hi hj hij
    simp only [List.length_map, Array.length_toList] at hi hj
    have := hso i j (Nat.zero_le _) hij (by omega)
    rw [ed_lt, getElem!_pos d' i (by omega), getElem!_pos d' j (by omega)] at this
    simp [qe] at this ⊢
    exact this
  · have := put_owns h (eflat (d'.toList.map qe)) (by rw [eflat_length]; simp [hsz]) n os
    unfold ES
    simp only [List.length_map, Array.length_toList, hsz]
    exact this
  · exact put_below w n g B _ os hlt.1 hlt.2

end Go.Proofs.Ytmpbcdolikafpaa
