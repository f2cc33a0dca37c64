/-
  The law FnRoute answers true at every slice of bytes, and writes nothing that was there.
-/
import Derived.Test.YtbfgjadonilonaaRouteM
import Derived.Test.YtbfgjadonilonaaDrawS
namespace Go.Proofs.Ytbfgjadonilonaa
open Go.RowKit
set_option maxHeartbeats 8000000 in
theorem lawFRoute_walk (a : Option Addr) (n c : Nat) (z0 : List Int) (w : World) (w0 : IsRow .u8 w a n c z0) :
    Calls Try.prog 7 #[.slice a n c] w fun e w' => e = .returned (.bool true) ∧ Below w.heap.size w w' := by
  by_cases hbig : 1048576 < n
  · have hb' : (1048576 : Int) < (n : Int) := by omega
    clear w0
    go_enter Try.func7, Try.ntmps7
    go_wp2
    go_ret
    exact ⟨rfl, Below.refl _ _⟩
  · have hrd := rd_of_row w0 (by omega)
    generalize z0.take n = zs at hrd
    have hns : ¬ (1048576 : Int) < (n : Int) := by omega
    clear w0
    have HR : Hid (Rd w a n c zs) := hrd
    clear hrd
    go_enter Try.func7, Try.ntmps7
    go_wp2_with fail
    refine (drawRoute_any a n c zs _ HR.out (by omega)).mono ?_
    rintro e w1 ⟨⟨v, ss, k, rfl, hs1, hl1, hz1⟩, hb1⟩
    obtain ⟨sa, sc, rfl, hsd⟩ := hs1.sd hz1
    have HR1 := hid (HR.out.kept hb1)
    have HB1 := hid hb1
    have HS1 := hid hsd
    clear hb1 HR hs1 hz1 hsd
    generalize hm : ss.length = m at *
    have HM := hid hm
    clear hm
    go_wp2_with fail
    refine (implRoute_any sa m sc ss k _ HS1.out).mono ?_
    rintro e w2 ⟨rfl, hb2⟩
    have HB2 := hid hb2
    have HS2 := hid (HS1.out.kept hb2)
    clear hb2
    go_wp2_with fail
    refine (specRoute_any sa m sc ss k _ HS2.out (by omega)).mono ?_
    rintro e u ⟨rfl, hb3⟩
    have HB3 := hid (thn3 HB1.out (thn3 HB2.out hb3))
    have HS3 := hid (HS2.out.kept hb3)
    have HR3 := hid (HR1.out.kept (thn3 HB2.out hb3))
    clear hb3 HB1 HB2 HS1 HS2 HR1
    have HT := hid (fun (s : Nat) (hs : s ≤ m) (hk : rHas (pLo ss s) (pHi ss s) k = true) => route_test (by rw [HM.out]; exact hs) hk)
    have HO := hid (fun (s : Nat) (hs : s ≤ m) => pOk_in (ss := ss) (s := s) (by rw [HM.out]; exact hs))
    have hne : (rt ss k != rt ss k) = false := by simp
    generalize rt ss k = Z at *
    go_wp2_with fail
    go_loopw [6] (fun i wr => ∃ j : Nat, i = .int .i64 j ∧ j ≤ m + 1 ∧ Hid (Below u.heap.size u wr)) (fun i _ => m + 1 - (intOf i).toNat)
    case atStart => exact ⟨0, rfl, Nat.zero_le _, Below.refl _ _⟩
    case round =>
      obtain ⟨j, rfl, hj, HB⟩ := hrel
      by_cases hle : j ≤ m
      · have hle' : (j : Int) ≤ (m : Int) := by omega
        have hO := HO.out j hle
        have hT := hid (HT.out j hle)
        go_wp2_with fail
        refine (implPartOf_any sa m sc ss j _ (HS3.out.kept HB.out) (by omega) (by omega)).mono ?_
        rw [hO]
        rintro e v1 ⟨rfl, hb1⟩
        clear hO
        generalize pLo ss j = X at *
        generalize pHi ss j = Y at *
        have B1 := hid (thn3 (thn3 HB.out hb1) (below_alloc v1 (.cells #[.string X, .string Y] 30)))
        clear hb1
        go_wp2_with fail
        refine (specSplitsOk_any sa m sc ss _ (HS3.out.kept B1.out)).mono ?_
        rintro e v2 ⟨rfl, hb2⟩
        have B2 := hid (thn3 B1.out hb2)
        obtain ⟨r0, r1, _, _⟩ := ((Blk.new v1 X Y).kept hb2).facts
        clear hb2 B1
        have hbb : (sOk ss != sOk ss) = false := by cases sOk ss <;> rfl
        generalize sOk ss = b at *
        go_wp2_with fail
        refine (implRangeHas_any X Y k _).mono ?_
        rintro e v3 ⟨rfl, hb3⟩
        have B3 := hid (thn3 B2.out hb3)
        clear hb3 B2 r0 r1
        cases hH : rHas X Y k
        · clear hT
          go_wp2
          go_roundw
          case rel => exact ⟨j + 1, by go_num, by omega, B3.out⟩
          case measure => simp [intOf]; omega
        · have hT2 := hT.out hH
          clear hT
          go_wp2
          go_roundw
          case rel => exact ⟨j + 1, by go_num, by omega, B3.out⟩
          case measure => simp [intOf]; omega
      · have hle' : ¬ (j : Int) ≤ (m : Int) := by omega
        have HR4 := hid (HR3.out.kept HB.out)
        have HB4 := hid (thn3 HB3.out HB.out)
        clear HT HO HR3 HS3 HB3 HB
        go_wp2_with fail
        refine (drawCut_any a n c zs _ HR4.out (by omega)).mono ?_
        rintro e v1 ⟨⟨v, tt, lo, hi, rfl, hs2, hl2, hz2⟩, hb1⟩
        obtain ⟨ta, tc, rfl, hsd⟩ := hs2.sd hz2
        have HB5 := hid (thn3 (thn3 HB4.out hb1) (below_alloc v1 (.cells #[.string lo, .string hi] 30)))
        have HS5 := hid (hsd.kept (below_alloc v1 (.cells #[.string lo, .string hi] 30)))
        have HK5 := hid (Blk.new v1 lo hi)
        clear hb1 hsd hs2 hz2 HB4 HR4 HM hl1 hle' hle hj hne
        generalize hq : tt.length = q at *
        have HQ := hid hq
        clear hq
        go_wp2_with fail
        refine (implCut_any ta q tc tt lo hi _ HS5.out (by omega)).mono ?_
        generalize v1.alloc (.cells #[.string lo, .string hi] 30) = v2 at *
        rintro e v3 ⟨pv, rfl, hp3, hb3⟩
        have HB6 := hid (thn3 HB5.out hb3)
        have HS6 := hid (HS5.out.kept hb3)
        have HK6 := hid (HK5.out.kept hb3)
        have HP6 := hid (hp3.lower (Nat.zero_le _))
        clear hp3 hb3 HB5 HS5 HK5
        obtain ⟨pa, pc, rfl⟩ := HP6.out.shape
        have HA := hid (cut_at tt lo hi)
        have HLN : Hid ((cutL tt lo hi).length ≤ 1048577) := by
          have h1 := cutTo_length tt lo hi (tt.length + 1)
          have h2 := HQ.out
          show (cutL tt lo hi).length ≤ 1048577
          unfold cutL
          omega
        obtain ⟨ps, hps⟩ : ∃ ps, cutL tt lo hi = ps := ⟨_, rfl⟩
        rw [hps] at HA HLN HP6 ⊢
        have HCC := hid hps
        clear hps
        generalize hr : ps.length = r at *
        have HRR := hid hr
        clear hr
        have hr63 : r ≤ 1048577 := HLN.out
        go_wp2_with fail
        go_loopw [70] (fun i wr => ∃ j : Nat, i = .int .i64 j ∧ j ≤ r ∧ Hid (Below v3.heap.size v3 wr)) (fun i _ => r - (intOf i).toNat)
        case atStart => exact ⟨0, rfl, Nat.zero_le _, Below.refl _ _⟩
        case round =>
          obtain ⟨d, rfl, hd, HD⟩ := hrel
          by_cases hlt : d < r
          · have hlt' : (d : Int) < (r : Int) := by omega
            have hd0 : (0 : Int) ≤ (d : Int) := by omega
            obtain ⟨i, hi1, hi2, hi3, hi4⟩ := HA.out d hlt
            obtain ⟨g, cap, hg, _, _⟩ := HP6.out.some (by rw [HRR.out]; omega)
            rw [HRR.out] at hg
            cases hg
            have hpc := HP6.out.below HD.out
            rw [← HRR.out] at hpc
            obtain ⟨c0, c1, c2⟩ := hpc.cell d (by rw [HRR.out]; exact hlt)
            rw [hi2] at c0
            have HI1 := hid hi1
            have HI3 := hid hi3
            have HI4 := hid hi4
            clear hpc hi1 hi2 hi3 hi4
            generalize (pAt ps d).2.1 = M at *
            generalize (pAt ps d).2.2 = N at *
            have HD4 := hid (thn3 HD.out (below_alloc wr (.cells #[.int .i64 (i : Int), .string M, .string N] 50)))
            have p1 : (wr.alloc (.cells #[.int .i64 (i : Int), .string M, .string N] 50)).cell? ⟨wr.heap.size, 1, none⟩ = some (.string M) := by rw [World.cell?_alloc_at (hn := rfl)]; rfl
            have p2 : (wr.alloc (.cells #[.int .i64 (i : Int), .string M, .string N] 50)).cell? ⟨wr.heap.size, 2, none⟩ = some (.string N) := by rw [World.cell?_alloc_at (hn := rfl)]; rfl
            have P1 := hid p1
            have P2 := hid p2
            clear p1 p2
            have hiq : i ≤ q := by have := HI1.out; have := HQ.out; omega
            go_wp2_with fail
            refine (implPartOf_any ta q tc tt i _ (HS6.out.kept HD4.out) (by omega) (by omega)).mono ?_
            generalize pLo tt i = X at *
            generalize pHi tt i = Y at *
            rintro e v5 ⟨rfl, hb5⟩
            have HD5 := hid (thn3 (thn3 HD4.out hb5) (below_alloc v5 (.cells #[.string X, .string Y] 30)))
            have q1 := cell_kept P1.out (thn3 hb5 (below_alloc v5 (.cells #[.string X, .string Y] 30)))
            have q2 := cell_kept P2.out (thn3 hb5 (below_alloc v5 (.cells #[.string X, .string Y] 30)))
            clear hb5 P1 P2 HD4 c0 c1 c2
            go_wp2_with fail
            refine (implRangeIn_any M N X Y _).mono ?_
            rw [HI3.out]
            rintro e v6 ⟨rfl, hb6⟩
            have HD6 := hid (thn3 HD5.out hb6)
            have t1 := cell_kept q1 hb6
            have t2 := cell_kept q2 hb6
            clear hb6 q1 q2 HD5
            obtain ⟨r0, r1, _, _⟩ := (HK6.out.kept HD6.out).facts
            go_wp2_with fail
            refine (implRangeIn_any M N lo hi _).mono ?_
            rw [HI4.out]
            rintro e v7 ⟨rfl, hb7⟩
            have HD7 := hid (thn3 HD6.out hb7)
            clear hb7 t1 t2 r0 r1 HD6
            go_wp2
            go_roundw
            case rel => exact ⟨d + 1, by go_num, by omega, HD7.out⟩
            case measure => simp [intOf]; omega
          · have hlt' : ¬ (d : Int) < (r : Int) := by omega
            have HS7 := hid (HS6.out.kept HD.out)
            have HB7 := hid (thn3 HB6.out HD.out)
            obtain ⟨r0, r1, _, _⟩ := (HK6.out.kept HD.out).facts
            go_wp2_with fail
            refine (specCut_any ta q tc tt lo hi _ HS7.out (by omega)).mono ?_
            rintro e v4 ⟨pv2, rfl, hp4, hb4⟩
            rw [HCC.out] at hp4
            have HB8 := hid (thn3 HB7.out hb4)
            obtain ⟨pa2, pc2, rfl⟩ := hp4.shape
            rw [HRR.out]
            clear hp4 hb4 HS7 HB7 r0 r1
            go_wp2
            go_ret
            exact ⟨rfl, HB8.out⟩
end Go.Proofs.Ytbfgjadonilonaa
