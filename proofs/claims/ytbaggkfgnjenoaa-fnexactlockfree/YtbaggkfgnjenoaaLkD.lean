/-
  Tables of locks that are right: the program's side.
-/
import Derived.Test.YtbaggkfgnjenoaaLkC
import Derived.Deep.RegionWith
namespace Go.Proofs.Ytbaggkfgnjenoaa
open Go.RowKit
set_option linter.unusedVariables false
theorem lr_kc {u v : World} {S : Nat → Prop} {x : Value} {l : List LK} {a0 a1 a2 a3 a4 a5 : Addr} {x0 x1 x2 x3 x4 x5 : Value} (h : Lr u S x l) (k : v.cell? a0 = some x0 ∧ v.cell? a1 = some x1 ∧ v.cell? a2 = some x2 ∧ v.cell? a3 = some x3 ∧ v.cell? a4 = some x4 ∧ v.cell? a5 = some x5 ∧ KC u v [(a0, x0), (a1, x1), (a2, x2), (a3, x3), (a4, x4), (a5, x5)]) : Lr v S x l := h.below k.2.2.2.2.2.2.bel
theorem Bk.kc6 {w : World} {g : Nat} {T : TypeId} {x0 x1 x2 x3 x4 x5 : Value} (h : Bk w g T [x0, x1, x2, x3, x4, x5]) : KC w w [(⟨g, 0, none⟩, x0), (⟨g, 1, none⟩, x1), (⟨g, 2, none⟩, x2), (⟨g, 3, none⟩, x3), (⟨g, 4, none⟩, x4), (⟨g, 5, none⟩, x5)] :=
  kc0_6 (h.cell (j := 0) rfl) (h.cell (j := 1) rfl) (h.cell (j := 2) rfl) (h.cell (j := 3) rfl) (h.cell (j := 4) rfl) (h.cell (j := 5) rfl)
theorem hpk_def (l : List LK) (j : Nat) : hpk l j = (lkOk (lAt l j) && !anyC (l.take j) (lAt l j)) := rfl
theorem wpk_def (h l : List LK) (j : Nat) : wpk h l j = (lkOk (lAt l j) && (!hasT (l.take j) (lAt l j).1 && (anyC h (lAt l j) || anyC (l.take j) (lAt l j)))) := rfl
theorem heldB_def (l : List LK) : heldB l = (List.range l.length).all (hpk l) := rfl
theorem waitB_def (h l : List LK) : waitB h l = (List.range l.length).all (wpk h l) := rfl
theorem lksOk_def (h l : List LK) : lksOk h l = (decide (h.length + l.length ≤ 60) && (heldB h && waitB h l)) := rfl
theorem mustW_def (h l : List LK) (x : LK) : mustW h l x = (anyC h x || anyC l x) := rfl
set_option maxHeartbeats 4000000 in
theorem heldOk_any (S : Nat → Prop) (a : Option Addr) (m k : Nat) (l : List LK) (w : World) (h : Lr w S (.slice a m k) l) :
    Calls Try.prog 59 #[.slice a m k] w fun r w' => r = .returned (.bool (heldB l)) ∧ Below w.heap.size w w' := by
  have HN := hid (Rw.len h).1
  have bk := (Rw.len h).2
  have H0 := hid h
  have HV := hid (heldB_def l)
  rw [← HN.out] at HV
  clear h
  have hnot : ∀ (x : Bool) (w : World), (Op.unary .not (.bool x)).run Try.prog w = .ok (.bool (!x)) w := fun _ _ => rfl
  go_enter Try.func59, Try.ntmps59
  go_wp2_with fail
  go_loopw [7] (fun i v => ∃ j : Nat, j ≤ m ∧ i = .int .i64 j ∧ Hid (Below w.heap.size w v) ∧ Hid ((List.range j).all (hpk l) = true)) (fun i _ => m - (intOf i).toNat)
  case atStart => exact ⟨0, Nat.zero_le _, rfl, Below.refl _ _, rfl⟩
  case round =>
    obtain ⟨j, hj, rfl, HB, HT⟩ := hrel
    by_cases hlt : j < m
    · have hlt' : (j : Int) < (m : Int) := by omega
      have hml : j < l.length := by rw [← HN.out]; exact hlt
      have HR := hid (H0.out.below HB.out)
      obtain ⟨b, off, ha, -, -, hcell⟩ := HR.out.at (by omega)
      obtain ⟨hc0, hc1, hc2, hc3, hc4, hc5⟩ := hcell j hlt
      clear hcell
      subst ha
      have HNO : Hid (hpk l j = false → (List.range m).all (hpk l) = false) := rall_no _ hlt
      have HYES : Hid ((List.range (j + 1)).all (hpk l) = ((List.range j).all (hpk l) && hpk l j)) := rall_succ _ _
      have HP := hid (hpk_def l j)
      have HFR := hid (HR.out.first j (by omega))
      generalize lAt l j = cur at hc0 hc1 hc2 hc3 hc4 hc5 HP
      obtain ⟨⟨cc, ce, cn⟩, ⟨clo, chi⟩, cex⟩ := cur
      have B1 : Hid (Below w.heap.size w (wr.alloc (.cells #[.int .i64 cc, .int .i64 ce, .int .i64 cn, .string clo, .string chi, .bool cex] 31))) := HB.out.trans (below_new (Below.refl _ _) |>.mono HB.out.size)
      have T1 := hid (Bk.new wr 31 [.int .i64 cc, .int .i64 ce, .int .i64 cn, .string clo, .string chi, .bool cex]).kc6
      have HR1 := hid (HFR.out.below (below_new (o := .cells #[.int .i64 cc, .int .i64 ce, .int .i64 cn, .string clo, .string chi, .bool cex] 31) (w := wr) (Below.refl _ _)))
      have C1 := hid (fun w => implLockOk_any cc ce cn clo chi cex w)
      have C2 := hid (fun w => claimOf_any cc ce cn clo chi cex w)
      have C3 : Hid (∀ v, Lr v S (.slice (some ⟨b, off, none⟩) j k) (l.take j) → Calls Try.prog 96 #[.agg #[.string clo, .string chi, .int .i64 cc, .int .i64 ce, .int .i64 cn, .bool cex], .slice (some ⟨b, off, none⟩) j k] v fun r w' => r = .returned (.bool (anyC (l.take j) ((cc, ce, cn), (clo, chi), cex))) ∧ Below v.heap.size v w') := fun v hv => cwa_any cc ce cn clo chi cex S _ j k (l.take j) v hv
      generalize lkOk ((cc, ce, cn), (clo, chi), cex) = z1 at *
      generalize anyC (l.take j) ((cc, ce, cn), (clo, chi), cex) = z2 at *
      have hjk : (j : Int) ≤ (k : Int) := by omega
      have hk0 : ¬ k = 0 := by omega
      have hk63 : (k : Int) ≤ 9223372036854775807 := by omega
      have hj0 : (0 : Int) ≤ (j : Int) := by omega
      clear HR HFR hml
      go_wp2_with fail
      generalize hU : wr.alloc (.cells #[.int .i64 cc, .int .i64 ce, .int .i64 cn, .string clo, .string chi, .bool cex] 31) = U at *
      generalize wr.heap.size = g at *
      clear hU
      cases z1 with
      | false =>
        have HZ := hid (HNO.out (by rw [HP.out]; rfl))
        obtain ⟨x0, x1, x2, x3, x4, x5, -⟩ := kc6 T1.out
        first | go_region_with (first
              | (go_at_call 48; refine (C1.out _).mono ?_; rintro r w' ⟨rfl, hbC⟩)) | fail
        all_goals (have B6 := hid (B1.out.trans (((below_drew _).trans hbC).mono B1.out.size)); clear hbC; go_wp2; go_ret; exact ⟨by rw [HV.out, HZ.out]; rfl, B6.out⟩)
      | true =>
        first | go_region_held3 (fun v => v.cell? ⟨g, 0, none⟩ = some (.int .i64 cc) ∧ v.cell? ⟨g, 1, none⟩ = some (.int .i64 ce) ∧ v.cell? ⟨g, 2, none⟩ = some (.int .i64 cn) ∧ v.cell? ⟨g, 3, none⟩ = some (.string clo) ∧ v.cell? ⟨g, 4, none⟩ = some (.string chi) ∧ v.cell? ⟨g, 5, none⟩ = some (.bool cex) ∧ KC U v [(⟨g, 0, none⟩, .int .i64 cc), (⟨g, 1, none⟩, .int .i64 ce), (⟨g, 2, none⟩, .int .i64 cn), (⟨g, 3, none⟩, .string clo), (⟨g, 4, none⟩, .string chi), (⟨g, 5, none⟩, .bool cex)])
            (first | assumption | exact kc6 (T1.out.call (below_drew _)) | exact kc6c hbC (by assumption))
            (first
              | (go_at_call 48; refine (C1.out _).mono ?_; rintro r w' ⟨rfl, hbC⟩)
              | (go_at_call 63; refine (C2.out _).mono ?_; rintro r w' ⟨rfl, hbC⟩)
              | (go_at_call 96; refine (C3.out _ (lr_kc HR1.out (by assumption))).mono ?_; rintro r w' ⟨rfl, hbC⟩)) | fail
        rename_i hS
        have B6 := hid (B1.out.trans (hS.2.2.2.2.2.2.bel.mono B1.out.size))
        clear hS
        cases z2 with
        | false =>
          have HY : Hid ((List.range (j + 1)).all (hpk l) = true) := by
            show _ = true
            rw [HYES.out, HT.out, HP.out]; rfl
          go_wp2
          go_roundw
          case rel => exact ⟨j + 1, by omega, by go_num, B6.out, HY.out⟩
          case measure => simp [intOf]; omega
        | true =>
          have HZ := hid (HNO.out (by rw [HP.out]; rfl))
          go_wp2
          go_ret
          exact ⟨by rw [HV.out, HZ.out]; rfl, B6.out⟩
    · have HA : Hid (heldB l = true) := by
        show _ = true
        rw [HV.out]
        rw [show m = j by omega]
        exact HT.out
      go_wp2
      go_ret
      exact ⟨by rw [HA.out]; rfl, HB.out⟩
end Go.Proofs.Ytbaggkfgnjenoaa

