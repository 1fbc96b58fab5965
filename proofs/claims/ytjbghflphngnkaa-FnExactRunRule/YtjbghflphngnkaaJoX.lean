/- Proved here: symMergeCmpFunc at jobs: symF. -/
import Derived.Test.YtjbghflphngnkaaJoY
import Derived.Test.YtjbghflphngnkaaJoZ
namespace Go.Proofs.Ytjbghflphngnkaa
open Go.RowKit
set_option linter.unusedVariables false
set_option linter.unusedSimpArgs false


theorem stF_eq (c : Jb → Jb → Int) (a m b : Nat) (l : List Jb) : stF c a m b l = bsF (psC c l (midF a b + m - 1)) b (if midF a b < m then midF a b + m - b else a) (if midF a b < m then midF a b else m) := by
  unfold stF; split <;> rfl
set_option maxRecDepth 10000 in
set_option maxHeartbeats 12800000 in
theorem sym_gen {W w : World} {lo p g n cap : Nat} {c : Jb → Jb → Int} {l : List Jb} (f a m b : Nat) (ha : a + 1 < m) (hm : m + 1 < b) (hb : b ≤ n) (hf : b - a ≤ f + 1) (hn : n ≤ 1000) (hC : Cmp W lo p c)
    (IH : ∀ (a' m' b' : Nat) (l' : List Jb) (w' : World), a' < m' → m' < b' → b' ≤ n → b' - a' ≤ f → OJ w' lo g n cap l' → Below lo W w' → Calls Try.prog 94 #[.slice (some ⟨g, 0, none⟩) n cap, .int .i64 a', .int .i64 m', .int .i64 b', .func (Fn.func 81) #[] #[.pointer (some ⟨p, 0, none⟩)]] w' fun e w'' => e = .returned (.tuple #[]) ∧ OJ w'' lo g n cap (symF c f a' m' b' l') ∧ Below lo W w'')
    (ho : OJ w lo g n cap l) (hW : Below lo W w) :
    Calls Try.prog 94 #[.slice (some ⟨g, 0, none⟩) n cap, .int .i64 a, .int .i64 m, .int .i64 b, .func (Fn.func 81) #[] #[.pointer (some ⟨p, 0, none⟩)]] w fun e w' => e = .returned (.tuple #[]) ∧ OJ w' lo g n cap (symF c (f + 1) a m b l) ∧ Below lo W w' := by
  obtain ⟨M, hM⟩ : ∃ x, x = midF a b := ⟨_, rfl⟩
  have hMv : M = (a + b) / 2 := hM
  obtain ⟨N, hN⟩ : ∃ x, x = M + m := ⟨_, rfl⟩
  obtain ⟨P, hP⟩ : ∃ x, x = N - 1 := ⟨_, rfl⟩
  obtain ⟨st, hst⟩ : ∃ x, x = stF c a m b l := ⟨_, rfl⟩
  obtain ⟨en, hen⟩ : ∃ x, x = N - st := ⟨_, rfl⟩
  obtain ⟨L1, hL1⟩ : ∃ x, x = roF c a m b l := ⟨_, rfl⟩
  obtain ⟨L2, hL2⟩ : ∃ x, x = (if a < st ∧ st < M then symF c f a st M L1 else L1) := ⟨_, rfl⟩
  obtain ⟨R, hR⟩ : ∃ x, x = symF c (f + 1) a m b l := ⟨_, rfl⟩
  have HB : Hid ((if M < m then N - b else a) ≤ st ∧ st ≤ (if M < m then M else m)) := by
    have e := stF_eq c a m b l
    rw [← hM, ← hN, ← hP, ← hst] at e
    rw [e]; exact bsF_bnd _ _ _ _ (by split <;> omega)
  have HST : Hid (bsF (psC c l P) b (if M < m then N - b else a) (if M < m then M else m) = st) := by
    have e := stF_eq c a m b l
    rw [← hM, ← hN, ← hP, ← hst] at e
    exact e.symm
  have HL1 : Hid (L1 = if st < m ∧ m < en then rotF m b (m - st) (en - m) l else l) := by
    unfold Hid; rw [hL1, roF, ← hM, ← hN, ← hst, ← hen]
  have HL2 : Hid (L2 = if a < st ∧ st < M then symF c f a st M L1 else L1) := hL2
  have HR : Hid (R = if M < en ∧ en < b then symF c f M en b L2 else L2) := by
    unfold Hid; rw [hR, symF, if_neg (by omega), if_neg (by omega)]
    show (if midF a b < midF a b + m - stF c a m b l ∧ midF a b + m - stF c a m b l < b then _ else _) = _
    rw [← hM, ← hN, ← hst, ← hL1, ← hen, ← hL2]
  have HBN : Hid (∀ q, (if M < m then N - b else a) ≤ q → q < (if M < m then M else m) → q < n ∧ P - q < n ∧ q ≤ P) := fun q h1 h2 => by
    split at h1
    · rename_i h3; rw [if_pos h3] at h2; omega
    · rename_i h3; rw [if_neg h3] at h2; omega
  have HEN : Hid (en ≤ b ∧ st ≤ N ∧ a ≤ st ∧ st ≤ m ∧ m ≤ en) := by
    have h := HB.out
    unfold Hid
    split at h
    · rename_i h3; omega
    · rename_i h3; omega
  have HS : Hid (OJ w lo g n cap l ∧ Below lo W w) := ⟨ho, hW⟩
  have HC : Hid (Cmp W lo p c) := hC
  have HIH : Hid (∀ (a' m' b' : Nat) (l' : List Jb) (w' : World), a' < m' → m' < b' → b' ≤ n → b' - a' ≤ f → OJ w' lo g n cap l' → Below lo W w' → Calls Try.prog 94 #[.slice (some ⟨g, 0, none⟩) n cap, .int .i64 a', .int .i64 m', .int .i64 b', .func (Fn.func 81) #[] #[.pointer (some ⟨p, 0, none⟩)]] w' fun e w'' => e = .returned (.tuple #[]) ∧ OJ w'' lo g n cap (symF c f a' m' b' l') ∧ Below lo W w'') := IH
  have HAB : Hid (a < M ∧ M < b ∧ b - a ≤ f + 1 ∧ M = (a + b) / 2 ∧ N = M + m ∧ P = N - 1 ∧ en = N - st) := by unfold Hid; omega
  rw [← hR]
  have e1 : ¬ (m : Int) - (a : Int) = 1 := by omega
  have e2 : ¬ (b : Int) - (m : Int) = 1 := by omega
  have e3 : ((a : Int) + (b : Int)) / 2 = (M : Int) := by omega
  have e4 : (M : Int) + (m : Int) = (N : Int) := by omega
  have e5 : (N : Int) - 1 = (P : Int) := by omega
  have e7 : (a : Int) + (b : Int) ≤ 2000 := by omega
  have e8 : (N : Int) ≤ 2000 := by omega
  have e9 : (0 : Int) ≤ (a : Int) + (b : Int) := by omega
  clear ho hW hR hC IH hM hMv hN hP hst hen hL1 hL2 hf
  go_enter Try.func94, Try.ntmps94
  go_upto_if 140 with fail
  go_cut [20, 21] from 25 (fun r20 r21 wx => ∃ s0 r0 : Nat, r20 = .int .i64 (s0 : Nat) ∧ r21 = .int .i64 (r0 : Nat) ∧ Hid (s0 = (if M < m then N - b else a) ∧ r0 = (if M < m then M else m)) ∧ wx = w)
  case first =>
    as_aux_lemma =>
    by_cases h : M < m
    · have h1 : (M : Int) < (m : Int) := by omega
      have e6 : (N : Int) - (b : Int) = ((N - b : Nat) : Int) := by have := HAB.out; omega
      go_wp2
      go_meet
      exact ⟨N - b, M, rfl, rfl, ⟨by rw [if_pos h], by rw [if_pos h]⟩, rfl⟩
    · have h1 : ¬ (M : Int) < (m : Int) := by omega
      go_wp2
      go_meet
      exact ⟨a, m, rfl, rfl, ⟨by rw [if_neg h], by rw [if_neg h]⟩, rfl⟩
  case rest =>
    obtain ⟨s0, r0, rfl, rfl, hs, rfl⟩ := hcut
    have HSR : Hid (r0 ≤ b) := by unfold Hid; rw [hs.out.2]; have := HAB.out; split <;> omega
    rw [← hs.out.1, ← hs.out.2] at HB HST HBN
    clear hs
    have hsr : s0 ≤ r0 := by have := HB.out; omega
    go_wp2
    go_loopw [20, 21, 23] (fun u v _ wr => ∃ (i j q : Nat), u = .int .i64 (i : Nat) ∧ v = .int .i64 (j : Nat) ∧ s0 ≤ i ∧ i ≤ j ∧ j ≤ r0 ∧ Hid (j - i ≤ q ∧ OJ wr lo g n cap l ∧ Below lo W wr ∧ bsF (psC c l P) q i j = st)) (fun u v _ _ => (intOf v).toNat - (intOf u).toNat)
    case atStart => exact ⟨s0, r0, b, by go_num, by go_num, Nat.le_refl _, hsr, Nat.le_refl _, by have := HSR.out; omega, HS.out.1, HS.out.2, HST.out⟩
    case round =>
      clear HS HST
      obtain ⟨i, j, q, rfl, rfl, h1, h2, h3, hR⟩ := hrel
      by_cases hlt : i < j
      · as_aux_lemma =>
        obtain ⟨q, rfl⟩ : ∃ r, q = r + 1 := ⟨q - 1, by have := hR.out.1; omega⟩
        have hi9 := HBN.out i h1 (by omega)
        obtain ⟨h, hh⟩ : ∃ h, h = (i + j) / 2 := ⟨_, rfl⟩
        have hh9 := HBN.out h (by omega) (by omega)
        have hj9 := HBN.out (j - 1) (by omega) (by omega)
        have b1 : (i : Int) < (j : Int) := by omega
        have b2 : (j : Int) ≤ 1000 := by omega
        have b3 : (0 : Int) ≤ (i : Int) := by omega
        have b4 : ((i : Int) + (j : Int)) / 2 = (h : Int) := by omega
        have b5 : (h : Int) < (n : Int) := by omega
        have b6 : (0 : Int) ≤ (h : Int) := by omega
        obtain ⟨ph, hph⟩ : ∃ x, x = P - h := ⟨_, rfl⟩
        have b7 : (P : Int) - (h : Int) = (ph : Int) := by omega
        have b9 : (ph : Int) < (n : Int) := by omega
        have b10 : (0 : Int) ≤ (ph : Int) := by omega
        obtain ⟨hs, hhs⟩ : ∃ x, x = h + 1 := ⟨_, rfl⟩
        have HHS : Hid (hs = h + 1) := hhs
        have b8 : (h : Int) + 1 = (hs : Int) := by omega
        have hhn : h < n ∧ i ≤ h ∧ h < j ∧ ph < n := by omega
        have HB9 : Hid (bsF (psC c l P) (q + 1) i j = st) := hR.out.2.2.2
        unfold bsF at HB9
        obtain ⟨x, hx⟩ : ∃ x, x = jA l ph := ⟨_, rfl⟩
        obtain ⟨y, hy⟩ : ∃ y, y = jA l h := ⟨_, rfl⟩
        obtain ⟨r, hr⟩ : ∃ r, r = c x y := ⟨_, rfl⟩
        have HP : Hid ((0 ≤ r → bsF (psC c l P) q (h + 1) j = st) ∧ (r < 0 → bsF (psC c l P) q i h = st)) := by
          have e := HB9.out
          rw [if_pos hlt, ← hh] at e
          have e1 : psC c l P h = decide (¬ r < 0) := by unfold psC; rw [hr, hx, hy, hph]
          rw [e1] at e
          refine ⟨fun h9 => ?_, fun h9 => ?_⟩
          · rw [if_pos (decide_eq_true (by omega))] at e; exact e
          · rw [if_neg (by rw [decide_eq_false (fun e => e h9)]; decide)] at e; exact e
        obtain ⟨p0, p1, p2, p3, p4, p5, p6⟩ := hR.out.2.1.at hhn.1
        obtain ⟨q0, q1, q2, q3, q4, q5, q6⟩ := hR.out.2.1.at hhn.2.2.2
        rw [← hx] at q0 q1 q2 q3 q4 q5 q6
        rw [← hy] at p0 p1 p2 p3 p4 p5 p6
        have hgl := hR.out.2.1.lt.2
        have HCU : Hid (∀ X : Und wr.heap.size wr, Calls Try.prog 81 #[.agg #[.int .i64 x.id, .int .i64 x.co, .int .i64 x.ti, .int .i64 x.se, .int .i64 x.du, .int .i64 x.we, .int .i64 x.ki], .agg #[.int .i64 y.id, .int .i64 y.co, .int .i64 y.ti, .int .i64 y.se, .int .i64 y.du, .int .i64 y.we, .int .i64 y.ki], .pointer (some ⟨p, 0, none⟩)] X.W fun e w' => e = .returned (.int .i64 r) ∧ Below X.W.heap.size X.W w') := fun X => by
          rw [hr]; exact HC.out x y X.W (hR.out.2.2.1.trans (X.below.mono (by have := hR.out.2.1.lt; omega)))
        clear hh hx hy hr HB9 hhs hph hi9 hh9 hj9
        go_wp2_with (fail)
        (refine wp_region_und (by kernel_rfl) (by kernel_rfl) (fun hund => ?_); (repeat (go_big_quiet_step (first | (go_at_call 81; with_reducible refine und_call ?_ (HCU.out _); exact Nat.le_refl _)))); with_reducible refine wpQuiet_nil ?_; clear hund; intro W1 hb1; obtain ⟨hc1, hf1⟩ := undcell hb1)
        have HO : Hid (OJ W1 lo g n cap l ∧ Below lo W W1 ∧ j - i ≤ q + 1) := ⟨hR.out.2.1.below hb1, hR.out.2.2.1.trans (hb1.mono (by have := hR.out.2.1.lt; omega)), hR.out.1⟩
        clear hb1 hc1 hf1 hR HCU p0 p1 p2 p3 p4 p5 p6 q0 q1 q2 q3 q4 q5 q6 hgl
        generalize hz : decide (r < 0) = z
        have HZ : Hid (decide (r < 0) = z) := hz
        clear hz
        cases z
        case true =>
          have HN : Hid (bsF (psC c l P) q i h = st) := HP.out.2 (of_decide_eq_true HZ.out)
          clear HP HZ
          go_wp2
          go_roundw
          case rel => exact ⟨i, h, q, rfl, by go_num, h1, by omega, by omega, by have := HO.out.2.2; omega, HO.out.1, HO.out.2.1, HN.out⟩
          case measure => simp [intOf]; omega
        case false =>
          have HN : Hid (bsF (psC c l P) q (h + 1) j = st) := HP.out.1 (by have := of_decide_eq_false HZ.out; omega)
          clear HP HZ
          go_wp2
          go_roundw
          case rel => exact ⟨hs, j, q, by go_num, rfl, by have := HHS.out; omega, by have := HHS.out; omega, h3, by have := HO.out.2.2; have := HHS.out; omega, HO.out.1, HO.out.2.1, by rw [HHS.out]; exact HN.out⟩
          case measure => have := HHS.out; simp [intOf]; omega
      · obtain rfl : i = j := by omega
        have HE : Hid (st = i ∧ OJ wr lo g n cap l ∧ Below lo W wr) := by
          refine ⟨?_, hR.out.2.1, hR.out.2.2.1⟩
          rw [← hR.out.2.2.2]
          cases q with
          | zero => rfl
          | succ q => unfold bsF; rw [if_neg (by omega)]
        obtain rfl : st = i := HE.out.1
        have HO : Hid (OJ wr lo g n cap l ∧ Below lo W wr) := HE.out.2
        have g1 : (N : Int) - (st : Int) = (en : Int) := by have := HAB.out; have := HEN.out; omega
        clear hR HE HBN HB HC h1 h2 h3 hlt hsr
        go_upto_region 39 with fail
        go_cut [185] from 25 (fun z wx => z = .bool (decide (st < m ∧ m < en)) ∧ wx = wr)
        case first =>
          as_aux_lemma =>
          by_cases k1 : st < m
          · have k1' : (st : Int) < (m : Int) := by omega
            by_cases k2 : m < en
            · have k2' : (m : Int) < (en : Int) := by omega
              go_wp2
              go_meet
              exact ⟨by rw [decide_eq_true (⟨k1, k2⟩ : st < m ∧ m < en)], rfl⟩
            · have k2' : ¬ (m : Int) < (en : Int) := by omega
              go_wp2
              go_meet
              exact ⟨by rw [decide_eq_false (fun e : st < m ∧ m < en => k2 e.2)], rfl⟩
          · have k1' : ¬ (st : Int) < (m : Int) := by omega
            go_wp2
            go_meet
            exact ⟨by rw [decide_eq_false (fun e : st < m ∧ m < en => k1 e.1)], rfl⟩
        case rest =>
          obtain ⟨rfl, rfl⟩ := hcut
          have HT : Hid (st < m → m < en → ∀ X, OJ X lo g n cap l → Below lo W X → Calls Try.prog 95 #[.slice (some ⟨g, 0, none⟩) n cap, .int .i64 st, .int .i64 m, .int .i64 en, .func (Fn.func 81) #[] #[.pointer (some ⟨p, 0, none⟩)]] X fun e w' => e = .returned (.tuple #[]) ∧ OJ w' lo g n cap L1 ∧ Below lo W w') := fun k1 k2 X h1 h2 => by
            have := rot_run st m en b k1 k2 (by have := HEN.out; omega) (by have := HEN.out; omega) hn h1 h2 (p := p)
            rw [HL1.out, if_pos ⟨k1, k2⟩]; exact this
          obtain ⟨z, hz⟩ : ∃ z, z = decide (st < m ∧ m < en) := ⟨_, rfl⟩
          rw [← hz]
          go_upto_if 185 with fail
          go_cut [185] from 25 (fun _ wx => Hid (OJ wx lo g n cap L1 ∧ Below lo W wx))
          case first =>
            as_aux_lemma =>
            cases z with
            | true =>
              have k := of_decide_eq_true hz.symm
              clear hz
              go_wp2_with (fail)
              refine (HT.out k.1 k.2 _ HO.out.1 HO.out.2).mono ?_
              rintro e w5 ⟨rfl, q1, q2⟩
              go_wp2
              go_meet
              exact ⟨q1, q2⟩
            | false =>
              have HN : Hid (OJ wc lo g n cap L1) := by unfold Hid; rw [HL1.out, if_neg (of_decide_eq_false hz.symm)]; exact HO.out.1
              clear hz
              go_wp2
              go_meet
              exact ⟨HN.out, HO.out.2⟩
          case rest =>
            clear hz HO HT HL1
            have HO : Hid (OJ wc lo g n cap L1 ∧ Below lo W wc) := hcut
            clear hcut
            go_upto_region 41 with fail
            go_cut [199] from 25 (fun z wx => z = .bool (decide (a < st ∧ st < M)) ∧ wx = wc)
            case first =>
              as_aux_lemma =>
              by_cases k1 : a < st
              · have k1' : (a : Int) < (st : Int) := by omega
                by_cases k2 : st < M
                · have k2' : (st : Int) < (M : Int) := by omega
                  go_wp2
                  go_meet
                  exact ⟨by rw [decide_eq_true (⟨k1, k2⟩ : a < st ∧ st < M)], rfl⟩
                · have k2' : ¬ (st : Int) < (M : Int) := by omega
                  go_wp2
                  go_meet
                  exact ⟨by rw [decide_eq_false (fun e : a < st ∧ st < M => k2 e.2)], rfl⟩
              · have k1' : ¬ (a : Int) < (st : Int) := by omega
                go_wp2
                go_meet
                exact ⟨by rw [decide_eq_false (fun e : a < st ∧ st < M => k1 e.1)], rfl⟩
            case rest =>
              obtain ⟨rfl, rfl⟩ := hcut
              have HT : Hid (a < st → st < M → ∀ X, OJ X lo g n cap L1 → Below lo W X → Calls Try.prog 94 #[.slice (some ⟨g, 0, none⟩) n cap, .int .i64 a, .int .i64 st, .int .i64 M, .func (Fn.func 81) #[] #[.pointer (some ⟨p, 0, none⟩)]] X fun e w' => e = .returned (.tuple #[]) ∧ OJ w' lo g n cap L2 ∧ Below lo W w') := fun k1 k2 X h1 h2 => by
                have := HIH.out a st M L1 X k1 k2 (by have := HAB.out; omega) (by have := HAB.out; omega) h1 h2
                rw [HL2.out, if_pos ⟨k1, k2⟩]; exact this
              obtain ⟨z, hz⟩ : ∃ z, z = decide (a < st ∧ st < M) := ⟨_, rfl⟩
              rw [← hz]
              go_upto_if 199 with fail
              go_cut [199] from 25 (fun _ wx => Hid (OJ wx lo g n cap L2 ∧ Below lo W wx))
              case first =>
                as_aux_lemma =>
                cases z with
                | true =>
                  have k := of_decide_eq_true hz.symm
                  clear hz
                  go_wp2_with (fail)
                  refine (HT.out k.1 k.2 _ HO.out.1 HO.out.2).mono ?_
                  rintro e w5 ⟨rfl, q1, q2⟩
                  go_wp2
                  go_meet
                  exact ⟨q1, q2⟩
                | false =>
                  have HN : Hid (OJ wc lo g n cap L2) := by unfold Hid; rw [HL2.out, if_neg (of_decide_eq_false hz.symm)]; exact HO.out.1
                  clear hz
                  go_wp2
                  go_meet
                  exact ⟨HN.out, HO.out.2⟩
              case rest =>
                clear hz HO HT HL2
                have HO : Hid (OJ wc lo g n cap L2 ∧ Below lo W wc) := hcut
                clear hcut
                go_upto_region 43 with fail
                go_cut [213] from 25 (fun z wx => z = .bool (decide (M < en ∧ en < b)) ∧ wx = wc)
                case first =>
                  as_aux_lemma =>
                  by_cases k1 : M < en
                  · have k1' : (M : Int) < (en : Int) := by omega
                    by_cases k2 : en < b
                    · have k2' : (en : Int) < (b : Int) := by omega
                      go_wp2
                      go_meet
                      exact ⟨by rw [decide_eq_true (⟨k1, k2⟩ : M < en ∧ en < b)], rfl⟩
                    · have k2' : ¬ (en : Int) < (b : Int) := by omega
                      go_wp2
                      go_meet
                      exact ⟨by rw [decide_eq_false (fun e : M < en ∧ en < b => k2 e.2)], rfl⟩
                  · have k1' : ¬ (M : Int) < (en : Int) := by omega
                    go_wp2
                    go_meet
                    exact ⟨by rw [decide_eq_false (fun e : M < en ∧ en < b => k1 e.1)], rfl⟩
                case rest =>
                  obtain ⟨rfl, rfl⟩ := hcut
                  have HT : Hid (M < en → en < b → ∀ X, OJ X lo g n cap L2 → Below lo W X → Calls Try.prog 94 #[.slice (some ⟨g, 0, none⟩) n cap, .int .i64 M, .int .i64 en, .int .i64 b, .func (Fn.func 81) #[] #[.pointer (some ⟨p, 0, none⟩)]] X fun e w' => e = .returned (.tuple #[]) ∧ OJ w' lo g n cap R ∧ Below lo W w') := fun k1 k2 X h1 h2 => by
                    have := HIH.out M en b L2 X k1 k2 hb (by have := HAB.out; omega) h1 h2
                    rw [HR.out, if_pos ⟨k1, k2⟩]; exact this
                  obtain ⟨z, hz⟩ : ∃ z, z = decide (M < en ∧ en < b) := ⟨_, rfl⟩
                  rw [← hz]
                  cases z with
                  | true =>
                    have k := of_decide_eq_true hz.symm
                    clear hz
                    go_wp2_with (fail)
                    refine (HT.out k.1 k.2 _ HO.out.1 HO.out.2).mono ?_
                    rintro e w5 ⟨rfl, q1, q2⟩
                    go_wp2
                    go_returns
                    exact ⟨rfl, q1, q2⟩
                  | false =>
                    have HN : Hid (OJ wc lo g n cap R ∧ Below lo W wc) := by unfold Hid; rw [HR.out, if_neg (of_decide_eq_false hz.symm)]; exact HO.out
                    clear hz
                    go_wp2
                    go_returns
                    exact ⟨rfl, HN.out⟩

end Go.Proofs.Ytjbghflphngnkaa
