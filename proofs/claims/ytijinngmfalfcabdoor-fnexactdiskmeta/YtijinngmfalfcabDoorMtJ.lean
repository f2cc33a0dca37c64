/-
  MetaRead of the program.
-/
import Derived.Test.YtijinngmfalfcabDoorMtI
namespace Go.Proofs.YtijinngmfalfcabDoor
open Go.RowKit
set_option maxHeartbeats 4000000 in
set_option maxRecDepth 20000 in
theorem implMetaRead_any (a : Option Addr) (n c : Nat) (zs : List Int) (w : World) (h : Rd w a n c zs) (he : Err w 0) (he2 : Err w 1) :
    Calls Tryd.prog 41 #[.slice a n c] w fun e w' => MrPost (mrd zs) w e w' := by
  have hzl : n = zs.length := h.1
  have HR := hid h
  have HE := hid he
  have HE2 := hid he2
  have K0 := hid (Bk.new w 41 [.int .i64 0, .int .i64 0])
  have B0 := hid (below_new (o := .cells #[.int .i64 0, .int .i64 0] 41) (w := w) (Below.refl _ _))
  clear he he2
  by_cases h512 : n = 512
  · subst h512
    have HZL : Hid (zs.length = 512) := hzl.symm
    obtain ⟨b, off, rfl, hbl, -⟩ := h.2.2.2.2.2 (by omega)
    have hcc := h.2.1
    have hcm := h.2.2.1
    have hc1 : ¬ c = 1 := by omega
    have hc6 : ¬ c = 6 := by omega
    have F1 : Hid (∀ v, Below w.heap.size w v → Calls Tryd.prog 63 #[.slice (some ⟨b, off + 1, none⟩) 5 (c - 1)] v fun e w' => e = .returned (.int .i64 (mcd zs).1) ∧ v = w') := by
      intro v hb
      have := fromHighFirst_any _ 5 (c - 1) _ v ((HR.out.kept hb).cut 1 5 (by omega)) (by omega)
      rw [hiF_acc zs HZL.out 5 (by omega)] at this
      exact this
    have F2 : Hid (∀ v, Below w.heap.size w v → Calls Tryd.prog 63 #[.slice (some ⟨b, off + 6, none⟩) 2 (c - 6)] v fun e w' => e = .returned (.int .i64 (mcd zs).2) ∧ v = w') := by
      intro v hb
      have := fromHighFirst_any _ 2 (c - 6) _ v ((HR.out.kept hb).cut 6 2 (by omega)) (by omega)
      rw [hiF_root zs HZL.out] at this
      exact this
    have HM : Hid (mrd zs = if mtBytes (mcd zs).1 (mcd zs).2 = some zs then some (mcd zs) else none) := by
      show _ = _
      rw [mrd]
      by_cases q : mtBytes (mcd zs).1 (mcd zs).2 = some zs
      · rw [if_pos ⟨HZL.out, q⟩, if_pos q]
      · rw [if_neg (fun h => q h.2), if_neg q]
    have HMP : Hid (mcd zs = ((mcd zs).1, (mcd zs).2)) := rfl
    generalize (mcd zs).1 = mg at *
    generalize (mcd zs).2 = mr at *
    clear hbl hzl h
    go_enter Tryd.func41, Tryd.ntmps41
    go_wp2_with fail
    generalize w.alloc (.cells #[.int .i64 0, .int .i64 0] 41) = U at *
    have FD : Hid (Below w.heap.size w U.drew) := btw B0.out (below_drew _)
    have FA : Hid (∀ o, Below w.heap.size w (U.alloc o).drew) := fun o => btw B0.out ((below_new (Below.refl _ _)).trans ((below_drew _).mono (by simp)))
    have H1 := hid (F1.out _ FD.out)
    have H2 := hid (F2.out _ FD.out)
    have H3 := hid (F1.out _ (FA.out (.cells #[.int .i64 0, .int .i64 0] 41)))
    have H4 := hid (F2.out _ (FA.out (.cells #[.int .i64 0, .int .i64 0] 41)))
    have hw8 : IntKind.i64.wrap 8 = 8 := by simp [IntKind.wrap, IntKind.signed, IntKind.bits]
    go_cut [5] (fun x v => x = .pointer (some ⟨U.heap.size, 0, none⟩) ∧ v = (U.alloc (.cells #[.int .i64 mg, .int .i64 mr] 41)).drew)
    case first =>
      go_region_with (first
        | (go_at_call 63; with_reducible refine H1.out.mono ?_; rintro e w1 ⟨rfl, rfl⟩)
        | (go_at_call 63; with_reducible refine H3.out.mono ?_; rintro e w1 ⟨rfl, rfl⟩)
        | (go_at_call 63; with_reducible refine H4.out.mono ?_; rintro e w1 ⟨rfl, rfl⟩)
        | (go_at_call 63; with_reducible refine H2.out.mono ?_; rintro e w1 ⟨rfl, rfl⟩))
      all_goals (go_wp2_with fail; go_meet)
      all_goals exact ⟨rfl, rfl⟩
    case rest =>
      obtain ⟨rfl, rfl⟩ := hcut
      have BV : Hid (Below w.heap.size w (U.alloc (.cells #[.int .i64 mg, .int .i64 mr] 41)).drew) := FA.out _
      have KV : Hid (Bk (U.alloc (.cells #[.int .i64 mg, .int .i64 mr] 41)).drew U.heap.size 41 [.int .i64 mg, .int .i64 mr]) := (Bk.new U 41 [.int .i64 mg, .int .i64 mr]).below (below_drew _)
      have RV : Hid (Bk (U.alloc (.cells #[.int .i64 mg, .int .i64 mr] 41)).drew w.heap.size 41 [.int .i64 0, .int .i64 0]) := (K0.out.alloc _).below (below_drew _)
      have hne : ¬ w.heap.size = U.heap.size := by have := K0.out.lt; omega
      have hne' : ¬ U.heap.size = w.heap.size := fun e => hne e.symm
      generalize (U.alloc (.cells #[.int .i64 mg, .int .i64 mr] 41)).drew = V at *
      generalize U.heap.size = x at *
      generalize hy : w.heap.size = y at hne hne' RV ⊢
      have HY := hid hy
      clear hy F1 F2 K0 B0 FD FA H1 H2 H3 H4
      have c0 := KV.out.cell (j := 0) rfl
      have c1 := KV.out.cell (j := 1) rfl
      go_wp2_with fail
      refine (implMetaBytes_any mg mr V (HE.out.below BV.out HE.out.lt) (HE2.out.below BV.out HE2.out.lt)).mono ?_
      intro e w2 hput
      have B2 := hid (btw BV.out hput.1)
      have K2 := hid (KV.out.below hput.1)
      have R2 := hid (RV.out.below hput.1)
      have d0 := K2.out.cell (j := 0) rfl
      have d1 := K2.out.cell (j := 1) rfl
      have r0 := R2.out.cell (j := 0) rfl
      have r1 := R2.out.cell (j := 1) rfl
      have rf0 := R2.out.free 0
      have rf1 := R2.out.free 1
      have BF : Hid (∀ p q, Below w.heap.size w ((w2.setCell ⟨y, 0, none⟩ p).setCell ⟨y, 1, none⟩ q)) := by
        intro p q
        exact (B2.out.setCell (p := ⟨y, 0, none⟩) (Nat.le_of_eq HY.out) _).setCell (p := ⟨y, 1, none⟩) (Nat.le_of_eq HY.out) _
      rcases hput.2 with ⟨hn, rfl⟩ | ⟨v, out, hs, rfl, ho⟩
      · have HPR : Hid (mrd zs = none) := by show _ = _; rw [HM.out, if_neg]; rw [hn]; intro h; cases h
        clear hput c0 c1 KV RV BV HM hn
        go_wp2
        refine bodyPost_ret (results_mt2 (x := .int .i64 0) (y := .int .i64 0) rfl _ _ _ rfl rfl (by go_simp) (by go_simp)) rfl ?_
        exact ⟨by first | exact BF.out _ _ | exact B2.out, .inl ⟨HPR.out, rfl⟩⟩
      · have hout : out = mtFull mg mr ∧ mtOk mg mr = true := by
          unfold mtBytes at hs
          split at hs
          · rename_i hk; cases hs; exact ⟨rfl, hk⟩
          · cases hs
        obtain ⟨g0, g1, r0', r1'⟩ := mtOk_facts hout.2
        obtain ⟨a3, c3, rfl, hR3, -⟩ := ho.rd (byte_at (by rw [hout.1]; exact mtFull_byte r0' r1')) (by rw [hout.1, mtFull_len]; omega)
        have R3 := hid hR3
        have HS := hid hs
        clear hput c0 c1 KV RV BV ho hout hR3 hs g0 g1 r0' r1'
        generalize out.length = L at *
        go_wp2_with fail
        refine (bytesEqual_any _ _ _ _ _ _ _ _ _ R3.out (HR.out.kept B2.out)).mono ?_
        rintro e w3 ⟨rfl, rfl⟩
        by_cases hq : out = zs
        · have HPR : Hid (mrd zs = some (mg, mr)) := by show _ = _; rw [HM.out, if_pos (by rw [HS.out, hq]), HMP.out]
          rw [decide_eq_true hq]
          clear hq HM HMP HS R3
          go_wp2
          refine bodyPost_ret (results_mt2 (x := .int .i64 mg) (y := .int .i64 mr) rfl _ _ _ rfl rfl (by go_simp) (by go_simp)) rfl ?_
          exact ⟨BF.out _ _, .inr ⟨_, _, HPR.out, rfl⟩⟩
        · have HPR : Hid (mrd zs = none) := by show _ = _; rw [HM.out, if_neg]; rw [HS.out]; intro h; exact hq (Option.some.inj h)
          rw [decide_eq_false hq]
          clear hq HM HMP HS R3
          go_wp2
          refine bodyPost_ret (results_mt2 (x := .int .i64 0) (y := .int .i64 0) rfl _ _ _ rfl rfl (by go_simp) (by go_simp)) rfl ?_
          exact ⟨by first | exact BF.out _ _ | exact B2.out, .inl ⟨HPR.out, rfl⟩⟩
  · have h512' : ((n : Int) != 512) = true := by simp; omega
    have HPR : Hid (mrd zs = none) := by
      show mrd zs = none
      rw [mrd, if_neg]
      rintro ⟨h, _⟩
      omega
    clear HR K0 HE HE2 h hzl
    go_enter Tryd.func41, Tryd.ntmps41
    go_wp2
    refine bodyPost_ret (results_mt2 (x := .int .i64 0) (y := .int .i64 0) rfl _ _ _ rfl rfl (by go_simp) (by go_simp)) rfl ?_
    refine ⟨?_, .inl ⟨HPR.out, rfl⟩⟩
    exact B0.out
end Go.Proofs.YtijinngmfalfcabDoor

