/-
  What the law's helpers do with rows of records: sizes summed, copied, held against each other.
-/
import Derived.Test.YtgnjknbgahickabDoorRcP
import Derived.Test.YtgnjknbgahickabDoorRcA
import Derived.Test.YtgnjknbgahickabDoorKl
import Derived.Test.YtgnjknbgahickabDoorRng3
namespace Go.Proofs.YtgnjknbgahickabDoor
open Go.RowKit
set_option linter.unusedVariables false
theorem kl10 {u v : World} {a0 a1 a2 a3 a4 a5 a6 a7 a8 a9 : Addr} {x0 x1 x2 x3 x4 x5 x6 x7 x8 x9 : Value} (h : KL u v [(a0, x0), (a1, x1), (a2, x2), (a3, x3), (a4, x4), (a5, x5), (a6, x6), (a7, x7), (a8, x8), (a9, x9)]) : v.cell? a0 = some x0 ∧ v.cell? a1 = some x1 ∧ v.cell? a2 = some x2 ∧ v.cell? a3 = some x3 ∧ v.cell? a4 = some x4 ∧ v.cell? a5 = some x5 ∧ v.cell? a6 = some x6 ∧ v.cell? a7 = some x7 ∧ v.cell? a8 = some x8 ∧ v.cell? a9 = some x9 ∧ KL u v [(a0, x0), (a1, x1), (a2, x2), (a3, x3), (a4, x4), (a5, x5), (a6, x6), (a7, x7), (a8, x8), (a9, x9)] := ⟨h.at (by simp), h.at (by simp), h.at (by simp), h.at (by simp), h.at (by simp), h.at (by simp), h.at (by simp), h.at (by simp), h.at (by simp), h.at (by simp), h⟩
theorem kl10c {u v v' : World} {a0 a1 a2 a3 a4 a5 a6 a7 a8 a9 : Addr} {x0 x1 x2 x3 x4 x5 x6 x7 x8 x9 : Value} (k : Below v.heap.size v v') (h : v.cell? a0 = some x0 ∧ v.cell? a1 = some x1 ∧ v.cell? a2 = some x2 ∧ v.cell? a3 = some x3 ∧ v.cell? a4 = some x4 ∧ v.cell? a5 = some x5 ∧ v.cell? a6 = some x6 ∧ v.cell? a7 = some x7 ∧ v.cell? a8 = some x8 ∧ v.cell? a9 = some x9 ∧ KL u v [(a0, x0), (a1, x1), (a2, x2), (a3, x3), (a4, x4), (a5, x5), (a6, x6), (a7, x7), (a8, x8), (a9, x9)]) : v'.cell? a0 = some x0 ∧ v'.cell? a1 = some x1 ∧ v'.cell? a2 = some x2 ∧ v'.cell? a3 = some x3 ∧ v'.cell? a4 = some x4 ∧ v'.cell? a5 = some x5 ∧ v'.cell? a6 = some x6 ∧ v'.cell? a7 = some x7 ∧ v'.cell? a8 = some x8 ∧ v'.cell? a9 = some x9 ∧ KL u v' [(a0, x0), (a1, x1), (a2, x2), (a3, x3), (a4, x4), (a5, x5), (a6, x6), (a7, x7), (a8, x8), (a9, x9)] := kl10 (KL.call h.2.2.2.2.2.2.2.2.2.2 k)
theorem kl10_bel {u v : World} {a0 a1 a2 a3 a4 a5 a6 a7 a8 a9 : Addr} {x0 x1 x2 x3 x4 x5 x6 x7 x8 x9 : Value} (h : v.cell? a0 = some x0 ∧ v.cell? a1 = some x1 ∧ v.cell? a2 = some x2 ∧ v.cell? a3 = some x3 ∧ v.cell? a4 = some x4 ∧ v.cell? a5 = some x5 ∧ v.cell? a6 = some x6 ∧ v.cell? a7 = some x7 ∧ v.cell? a8 = some x8 ∧ v.cell? a9 = some x9 ∧ KL u v [(a0, x0), (a1, x1), (a2, x2), (a3, x3), (a4, x4), (a5, x5), (a6, x6), (a7, x7), (a8, x8), (a9, x9)]) : Below u.heap.size u v := KL.bel h.2.2.2.2.2.2.2.2.2.2
theorem kl10_0 {u : World} {a0 a1 a2 a3 a4 a5 a6 a7 a8 a9 : Addr} {x0 x1 x2 x3 x4 x5 x6 x7 x8 x9 : Value} (h0 : u.cell? a0 = some x0) (h1 : u.cell? a1 = some x1) (h2 : u.cell? a2 = some x2) (h3 : u.cell? a3 = some x3) (h4 : u.cell? a4 = some x4) (h5 : u.cell? a5 = some x5) (h6 : u.cell? a6 = some x6) (h7 : u.cell? a7 = some x7) (h8 : u.cell? a8 = some x8) (h9 : u.cell? a9 = some x9) : KL u u [(a0, x0), (a1, x1), (a2, x2), (a3, x3), (a4, x4), (a5, x5), (a6, x6), (a7, x7), (a8, x8), (a9, x9)] := ⟨fun p hp => by
    simp only [List.mem_cons, List.not_mem_nil, or_false] at hp
    rcases hp with rfl | rfl | rfl | rfl | rfl | rfl | rfl | rfl | rfl | rfl <;> assumption, Below.refl _ _⟩
set_option maxHeartbeats 4000000 in
theorem toRecS_at (S : Nat → Prop) (a : Option Addr) (n c : Nat) (l : List RC) (w : World) (h : rcR w S (.slice a n c) l) (hnm : n ≤ 1048576) :
    Calls Tryd.prog 38 #[.slice a n c] w fun e w' => e = .returned (.slice (some ⟨w.heap.size, 0, none⟩) n n) ∧ Bk w' w.heap.size 30 (rccs l) ∧ Below w.heap.size w w' := by
  have HN := hid (Rw.len h).1
  have H0 := hid h
  clear h
  have hmk := run_make_n (P := Tryd.prog) 46 30 (.agg #[.int .i64 0, .string ⟨#[]⟩, .string ⟨#[]⟩, .string ⟨#[]⟩, .string ⟨#[]⟩]) 5 72 Tryd.underlying46 rcInfo n (by omega) (by omega)
  rw [rc_made] at hmk
  have HM : Hid (rccs (List.replicate n rc0) = rccs (rcPt l 0)) := by
    show _ = _
    rw [HN.out]; simp [rcPt]
  rw [HM.out] at hmk
  have h63 : n ≤ 9223372036854775807 := by omega
  go_enter Tryd.func38, Tryd.ntmps38
  go_wp2
  go_loopw [4] (fun i wr => ∃ k : Nat, k ≤ n ∧ i = .int .i64 k ∧ Hid (Bk wr w.heap.size 30 (rccs (rcPt l k))) ∧ Hid (Below w.heap.size w wr)) (fun i _ => n - (intOf i).toNat)
  case atStart => exact ⟨0, Nat.zero_le _, rfl, Bk.new _ _ _, (Below.refl _ _).alloc (Nat.le_refl _) _⟩
  case round =>
    obtain ⟨k, hk, rfl, HK, HB⟩ := hrel
    by_cases hlt : k < n
    · have hlt' : (k : Int) < (n : Int) := by omega
      have HP := hid (H0.out.below HB.out)
      obtain ⟨b, off, rfl, _, hbw, hcell⟩ := HP.out.at (by omega)
      obtain ⟨hc0, hc1, hc2, hc3, hc4⟩ := hcell k hlt
      have HW : Hid (w.heap.size < wr.heap.size) := HK.out.lt
      have HSET : Hid ((rcPt l k).set k (rcAt l k) = rcPt l (k + 1)) := rcPt_set l k (by rw [← HN.out]; exact hlt)
      have HLE : Hid ((rcPt l k).length = n) := by show _ = _; rw [rcPt_length l k (by rw [← HN.out]; exact hk), ← HN.out]
      clear hcell hbw
      generalize hcur : rcAt l k = cur at hc0 hc1 hc2 hc3 hc4 HSET
      obtain ⟨xk, xky, xvl, xlo, xhi⟩ := cur
      clear hcur HP
      go_wp2_with fail
      refine (toRec_any xk xky xvl xlo xhi wr).mono ?_
      rintro e w1 ⟨rfl, hb1⟩
      have HK1 := hid (HK.out.below hb1)
      have HB1 := hid (HB.out.trans (hb1.mono HB.out.size))
      clear hb1
      obtain ⟨q0, q1, q2, q3, q4⟩ := rccs_at (rcPt l k) k (by rw [HLE.out]; exact hlt)
      have d0 := HK1.out.cell q0
      have d1 := HK1.out.cell q1
      have d2 := HK1.out.cell q2
      have d3 := HK1.out.cell q3
      have d4 := HK1.out.cell q4
      clear q0 q1 q2 q3 q4
      have hf0 := HK1.out.free (k * 5)
      have hf1 := HK1.out.free (k * 5 + 1)
      have hf2 := HK1.out.free (k * 5 + 2)
      have hf3 := HK1.out.free (k * 5 + 3)
      have hf4 := HK1.out.free (k * 5 + 4)
      have HK2 : Hid (Bk (((((w1.setCell ⟨w.heap.size, k * 5, none⟩ (.int .i64 xk)).setCell ⟨w.heap.size, k * 5 + 1, none⟩ (.string xky)).setCell ⟨w.heap.size, k * 5 + 2, none⟩ (.string xvl)).setCell ⟨w.heap.size, k * 5 + 3, none⟩ (.string xlo)).setCell ⟨w.heap.size, k * 5 + 4, none⟩ (.string xhi)) w.heap.size 30 (rccs (rcPt l (k + 1)))) := by
        show Bk _ _ _ _
        rw [← HSET.out, rccs_set _ _ _ (by rw [HLE.out]; exact hlt)]
        exact (((((HK1.out.set _ _).set _ _).set _ _).set _ _).set _ _)
      have HB2 : Hid (Below w.heap.size w (((((w1.setCell ⟨w.heap.size, k * 5, none⟩ (.int .i64 xk)).setCell ⟨w.heap.size, k * 5 + 1, none⟩ (.string xky)).setCell ⟨w.heap.size, k * 5 + 2, none⟩ (.string xvl)).setCell ⟨w.heap.size, k * 5 + 3, none⟩ (.string xlo)).setCell ⟨w.heap.size, k * 5 + 4, none⟩ (.string xhi))) := (((((HB1.out.setCell (Nat.le_refl _) _).setCell (Nat.le_refl _) _).setCell (Nat.le_refl _) _).setCell (Nat.le_refl _) _).setCell (Nat.le_refl _) _)
      generalize rcAt (rcPt l k) k = old at d0 d1 d2 d3 d4
      obtain ⟨ok, oky, ovl, olo, ohi⟩ := old
      go_wp2
      go_roundw
      case rel => exact ⟨k + 1, by omega, by go_num, HK2.out, HB2.out⟩
      case measure => simp [intOf]; omega
    · have hk' : k = n := by omega
      have HA : Hid (rccs (rcPt l k) = rccs l) := by show _ = _; rw [hk', HN.out]; simp [rcPt]
      clear hk'
      go_wp2
      go_ret
      refine ⟨rfl, ?_, HB.out⟩
      rw [← HA.out]; exact HK.out
def rcSz (l : List RC) : Prop := ∀ i, (rcAt l i).2.1.size ≤ 9223372036854775807 ∧ (rcAt l i).2.2.1.size ≤ 9223372036854775807 ∧ (rcAt l i).2.2.2.1.size ≤ 9223372036854775807 ∧ (rcAt l i).2.2.2.2.size ≤ 9223372036854775807
set_option maxHeartbeats 2000000 in
theorem szRecS_at (S : Nat → Prop) (a : Option Addr) (n c : Nat) (l : List RC) (left : Int) (w : World) (h : rcR w S (.slice a n c) l) (hsz : rcSz l) (h0 : 0 ≤ left) (h1 : left ≤ 1048576) :
    Calls Tryd.prog 32 #[.slice a n c, .int .i64 left] w fun e w' => (∃ x : Int, e = .returned (.int .i64 x) ∧ x ≤ left ∧ -1 ≤ x ∧ (0 ≤ x → n ≤ 1048576)) ∧ Below w.heap.size w w' := by
  obtain ⟨hn, hnc, hcc⟩ := Rw.len h
  have HN := hid hn
  have H0 := hid h
  have HZ := hid hsz
  clear h hsz hn
  by_cases hbig : left - (n : Int) < 0
  · go_enter Tryd.func32, Tryd.ntmps32
    go_wp2
    go_ret
    exact ⟨⟨_, rfl, by omega, by omega, fun h => by omega⟩, Below.refl _ _⟩
  · have hn2 : n ≤ 1048576 := by omega
    go_enter Tryd.func32, Tryd.ntmps32
    go_wp2
    go_loopw [1, 5] (fun x i wr => ∃ (k : Nat) (y : Int), k ≤ n ∧ i = .int .i64 k ∧ x = .int .i64 y ∧ 0 ≤ y ∧ y ≤ left ∧ Hid (Below w.heap.size w wr)) (fun _ i _ => n - (intOf i).toNat)
    case atStart => exact ⟨0, _, Nat.zero_le _, rfl, rfl, by omega, by omega, Below.refl _ _⟩
    case round =>
      obtain ⟨k, y, hk, rfl, rfl, hy0, hy1, HB⟩ := hrel
      by_cases hlt : k < n
      · have hlt' : (k : Int) < (n : Int) := by omega
        have HP := hid (H0.out.below HB.out)
        obtain ⟨b, off, rfl, _, hbw, hcell⟩ := HP.out.at (by omega)
        obtain ⟨hc0, hc1, hc2, hc3, hc4⟩ := hcell k hlt
        have hs := HZ.out k
        clear hcell hbw HP
        generalize rcAt l k = cur at hc0 hc1 hc2 hc3 hc4 hs
        obtain ⟨xk, xky, xvl, xlo, xhi⟩ := cur
        have HS := hid hs
        clear hs
        go_wp2_with fail
        refine (szRec_any xk xky xvl xlo xhi y wr hy0 (by omega) HS.out).mono ?_
        rintro e w1 ⟨⟨x, rfl, hx1, hx2⟩, hb1⟩
        have HB1 := hid (HB.out.trans (hb1.mono HB.out.size))
        clear hb1 HS hc0 hc1 hc2 hc3 hc4
        by_cases hneg : x < 0
        · go_wp2
          go_ret
          exact ⟨⟨_, rfl, by omega, by omega, fun h => by omega⟩, HB1.out⟩
        · go_wp2
          go_roundw
          case rel => exact ⟨k + 1, x, by omega, by go_num, rfl, by omega, by omega, HB1.out⟩
          case measure => simp [intOf]; omega
      · go_wp2
        go_ret
        exact ⟨⟨_, rfl, by omega, by omega, fun _ => hn2⟩, HB.out⟩
set_option maxHeartbeats 1600000 in
theorem eqRec_same (k : Int) (ky : ByteArray) (vl : ByteArray) (lo : ByteArray) (hi : ByteArray) (w : World) : Calls Tryd.prog 12 #[.agg #[.int .i64 k, .string ky, .string vl, .string lo, .string hi], .agg #[.int .i64 k, .string ky, .string vl, .string lo, .string hi]] w fun e w' => e = .returned (.bool true) ∧ Below w.heap.size w w' := by
  have C2 : Hid (∀ w, Calls Tryd.prog 31 #[.agg #[.string lo, .string hi], .agg #[.string lo, .string hi]] w fun e w' => e = .returned (.bool true) ∧ Below w.heap.size w w') := fun w => eqRange_same lo hi w
  have t1 : (k != k) = false := by simp
  have t2 : (ky.toList != ky.toList) = false := by simp
  have t3 : (vl.toList != vl.toList) = false := by simp
  have B0 := hid (below_new (o := .cells #[.int .i64 k, .string ky, .string vl, .string lo, .string hi] 30) (w := w) (below_new (o := .cells #[.int .i64 k, .string ky, .string vl, .string lo, .string hi] 30) (w := w.alloc (.cells #[.int .i64 k, .string ky, .string vl, .string lo, .string hi] 30)) (Below.refl _ _)))
  have K0 := hid ((Bk.new w 30 [.int .i64 k, .string ky, .string vl, .string lo, .string hi]).alloc (.cells #[.int .i64 k, .string ky, .string vl, .string lo, .string hi] 30))
  have J0 := hid (Bk.new (w.alloc (.cells #[.int .i64 k, .string ky, .string vl, .string lo, .string hi] 30)) 30 [.int .i64 k, .string ky, .string vl, .string lo, .string hi])
  rw [show (w.alloc (.cells #[.int .i64 k, .string ky, .string vl, .string lo, .string hi] 30)).heap.size = w.heap.size + 1 by simp] at J0
  go_enter Tryd.func12, Tryd.ntmps12
  go_wp2_with fail
  refine (C2.out _).mono ?_
  rintro e w1 ⟨rfl, hb⟩
  have B1 := hid (btR B0.out hb)
  clear hb B0 K0 J0
  go_wp2
  go_ret
  exact ⟨rfl, B1.out⟩
set_option maxHeartbeats 2000000 in
theorem eqRecS_same (S S' : Nat → Prop) (a a' : Option Addr) (n n' c c' : Nat) (l : List RC) (w : World) (h : rcR w S (.slice a n c) l) (h' : rcR w S' (.slice a' n' c') l) :
    Calls Tryd.prog 45 #[.slice a n c, .slice a' n' c'] w fun e w' => e = .returned (.bool true) ∧ Below w.heap.size w w' := by
  obtain ⟨hn, hnc, hcc⟩ := Rw.len h
  obtain ⟨hn', hnc', hcc'⟩ := Rw.len h'
  obtain rfl : n' = n := by omega
  have H0 := hid h
  have H0' := hid h'
  clear h h' hn hn'
  have hz : ((n' : Int) != (n' : Int)) = false := by simp
  go_enter Tryd.func45, Tryd.ntmps45
  go_wp2
  go_loopw [5] (fun i wr => ∃ k : Nat, k ≤ n' ∧ i = .int .i64 k ∧ Hid (Below w.heap.size w wr)) (fun i _ => n' - (intOf i).toNat)
  case atStart => exact ⟨0, Nat.zero_le _, rfl, Below.refl _ _⟩
  case round =>
    obtain ⟨k, hk, rfl, HB⟩ := hrel
    by_cases hlt : k < n'
    · have hlt' : (k : Int) < (n' : Int) := by omega
      have HP := hid (H0.out.below HB.out)
      have HP' := hid (H0'.out.below HB.out)
      obtain ⟨b, off, rfl, _, hbw, hcell⟩ := HP.out.at (by omega)
      obtain ⟨b', off', rfl, _, hbw', hcell'⟩ := HP'.out.at (by omega)
      obtain ⟨hc0, hc1, hc2, hc3, hc4⟩ := hcell k hlt
      obtain ⟨gc0, gc1, gc2, gc3, gc4⟩ := hcell' k hlt
      clear hcell hcell' hbw hbw' HP HP'
      generalize rcAt l k = cur at hc0 hc1 hc2 hc3 hc4 gc0 gc1 gc2 gc3 gc4
      obtain ⟨xk, xky, xvl, xlo, xhi⟩ := cur
      have T0 := hid (kl10_0 hc0 hc1 hc2 hc3 hc4 gc0 gc1 gc2 gc3 gc4)
      have C1 := hid (fun w => eqRec_same xk xky xvl xlo xhi w)
      clear hc0 hc1 hc2 hc3 hc4 gc0 gc1 gc2 gc3 gc4
      go_wp2_with fail
      go_region_held3 (fun v => v.cell? ⟨b, off + k * 5, none⟩ = some (.int .i64 xk) ∧ v.cell? ⟨b, off + k * 5 + 1, none⟩ = some (.string xky) ∧ v.cell? ⟨b, off + k * 5 + 2, none⟩ = some (.string xvl) ∧ v.cell? ⟨b, off + k * 5 + 3, none⟩ = some (.string xlo) ∧ v.cell? ⟨b, off + k * 5 + 4, none⟩ = some (.string xhi) ∧ v.cell? ⟨b', off' + k * 5, none⟩ = some (.int .i64 xk) ∧ v.cell? ⟨b', off' + k * 5 + 1, none⟩ = some (.string xky) ∧ v.cell? ⟨b', off' + k * 5 + 2, none⟩ = some (.string xvl) ∧ v.cell? ⟨b', off' + k * 5 + 3, none⟩ = some (.string xlo) ∧ v.cell? ⟨b', off' + k * 5 + 4, none⟩ = some (.string xhi) ∧ KL wr v [(⟨b, off + k * 5, none⟩, .int .i64 xk), (⟨b, off + k * 5 + 1, none⟩, .string xky), (⟨b, off + k * 5 + 2, none⟩, .string xvl), (⟨b, off + k * 5 + 3, none⟩, .string xlo), (⟨b, off + k * 5 + 4, none⟩, .string xhi), (⟨b', off' + k * 5, none⟩, .int .i64 xk), (⟨b', off' + k * 5 + 1, none⟩, .string xky), (⟨b', off' + k * 5 + 2, none⟩, .string xvl), (⟨b', off' + k * 5 + 3, none⟩, .string xlo), (⟨b', off' + k * 5 + 4, none⟩, .string xhi)])
        (first | assumption | exact kl10 (T0.out.call (below_drew _)) | exact kl10c hbC (by assumption))
        (first | (go_at_call 12; refine (C1.out _).mono ?_; rintro e w' ⟨rfl, hbC⟩))
      rename_i hS
      have HB1 := hid (HB.out.trans ((kl10_bel hS).mono HB.out.size))
      clear hS
      go_wp2
      go_roundw
      case rel => exact ⟨k + 1, by omega, by go_num, HB1.out⟩
      case measure => simp [intOf]; omega
    · go_wp2
      go_ret
      exact ⟨rfl, HB.out⟩
end Go.Proofs.YtgnjknbgahickabDoor

