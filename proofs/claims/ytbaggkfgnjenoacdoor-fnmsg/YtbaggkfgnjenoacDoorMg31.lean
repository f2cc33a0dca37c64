/-
  MsgRead of the program.
-/
import Derived.Test.YtbaggkfgnjenoacDoorMg26
import Derived.Test.YtbaggkfgnjenoacDoorMg30
import Derived.Test.YtbaggkfgnjenoacDoorMg2
import Derived.Test.YtbaggkfgnjenoacDoorMg25
import Derived.Test.YtbaggkfgnjenoacDoorMg15
import Derived.Test.YtbaggkfgnjenoacDoorMg29
import Derived.BigFrame
import Derived.Test.YtbaggkfgnjenoacDoorMg27
namespace Go.Proofs.YtbaggkfgnjenoacDoor
open Go.RowKit
set_option linter.unusedVariables false
/-- What reading the bytes zs as a message comes to: the message that they are written as, or nothing. -/
def RdP (zs : List Int) (w : World) (r : Ending) (w' : World) : Prop := Below w.heap.size w w' ∧ ((∃ (m : MS) (pa : Option Addr) (pn pc : Nat), m.bytes = some zs ∧ r = .returned (.tuple #[.agg #[.int .i64 m.kd, .int .i64 m.c, .int .i64 m.e, .int .i64 m.n, .int .i64 m.sh, .int .i64 m.nu, .int .i64 m.st, .int .i64 m.k, .string m.ky, .string m.vl, .string m.lo, .string m.hi, .int .i64 m.mo, .bool m.bk, .int .i64 m.cd, .slice pa pn pc, .bool m.ys], .bool true]) ∧ oqW w' w.heap.size (.slice pa pn pc) m.ps) ∨ ((∀ m : MS, m.bytes ≠ some zs) ∧ r = .returned (.tuple #[.agg #[.int .i64 0, .int .i64 0, .int .i64 0, .int .i64 0, .int .i64 0, .int .i64 0, .int .i64 0, .int .i64 0, .string ⟨#[]⟩, .string ⟨#[]⟩, .string ⟨#[]⟩, .string ⟨#[]⟩, .int .i64 0, .bool false, .int .i64 0, .slice none 0 0, .bool false], .bool false])))
set_option maxHeartbeats 16000000 in
set_option maxRecDepth 20000 in
theorem implMsgRead_any (a : Option Addr) (n c : Nat) (zs : List Int) (w : World) (h : Rd w a n c zs) :
    Calls Tryd.prog 7 #[.slice a n c] w fun r w' => RdP zs w r w' := by
  have hbN : Below w.heap.size w ((w.alloc (.cells #[.int .i64 0, .int .i64 0, .int .i64 0, .int .i64 0, .int .i64 0, .int .i64 0, .int .i64 0, .int .i64 0, .string ⟨#[]⟩, .string ⟨#[]⟩, .string ⟨#[]⟩, .string ⟨#[]⟩, .int .i64 0, .bool false, .int .i64 0, .slice none 0 0, .bool false] 31)).alloc (.cells #[.slice a n c, .int .i64 0] 58)) := below_new (below_new (Below.refl _ _))
  have K0 := hid ((Bk.new w 31 [.int .i64 0, .int .i64 0, .int .i64 0, .int .i64 0, .int .i64 0, .int .i64 0, .int .i64 0, .int .i64 0, .string ⟨#[]⟩, .string ⟨#[]⟩, .string ⟨#[]⟩, .string ⟨#[]⟩, .int .i64 0, .bool false, .int .i64 0, .slice none 0 0, .bool false]).alloc (.cells #[.slice a n c, .int .i64 0] 58))
  have I0 := Bk.new (w.alloc (.cells #[.int .i64 0, .int .i64 0, .int .i64 0, .int .i64 0, .int .i64 0, .int .i64 0, .int .i64 0, .int .i64 0, .string ⟨#[]⟩, .string ⟨#[]⟩, .string ⟨#[]⟩, .string ⟨#[]⟩, .int .i64 0, .bool false, .int .i64 0, .slice none 0 0, .bool false] 31)) 58 [.slice a n c, .int .i64 0]
  rw [show (w.alloc (.cells #[.int .i64 0, .int .i64 0, .int .i64 0, .int .i64 0, .int .i64 0, .int .i64 0, .int .i64 0, .int .i64 0, .string ⟨#[]⟩, .string ⟨#[]⟩, .string ⟨#[]⟩, .string ⟨#[]⟩, .int .i64 0, .bool false, .int .i64 0, .slice none 0 0, .bool false] 31)).heap.size = w.heap.size + 1 by simp] at I0
  have RM0 : Hid (Rm ((w.alloc (.cells #[.int .i64 0, .int .i64 0, .int .i64 0, .int .i64 0, .int .i64 0, .int .i64 0, .int .i64 0, .int .i64 0, .string ⟨#[]⟩, .string ⟨#[]⟩, .string ⟨#[]⟩, .string ⟨#[]⟩, .int .i64 0, .bool false, .int .i64 0, .slice none 0 0, .bool false] 31)).alloc (.cells #[.slice a n c, .int .i64 0] 58)) (w.heap.size + 1) a n c zs 0) := ⟨I0, h.kept hbN, fun x hx hp => by have := h.lt x hx hp; omega, by omega⟩
  have B0 := hid hbN
  have H0 := hid h
  clear h hbN I0
  go_enter Tryd.func7, Tryd.ntmps7
  go_wp2_with fail
  refine (mmsg_any (w.heap.size + 1) a n c zs _ RM0.out).mono ?_
  rintro r w1 ⟨m, pa, pn, pc, rfl, htr, hW, ho⟩
  have hv : w.heap.size + 1 < ((w.alloc (.cells #[.int .i64 0, .int .i64 0, .int .i64 0, .int .i64 0, .int .i64 0, .int .i64 0, .int .i64 0, .int .i64 0, .string ⟨#[]⟩, .string ⟨#[]⟩, .string ⟨#[]⟩, .string ⟨#[]⟩, .int .i64 0, .bool false, .int .i64 0, .slice none 0 0, .bool false] 31)).alloc (.cells #[.slice a n c, .int .i64 0] 58)).heap.size := RM0.out.bk.lt
  generalize (w.alloc (.cells #[.int .i64 0, .int .i64 0, .int .i64 0, .int .i64 0, .int .i64 0, .int .i64 0, .int .i64 0, .int .i64 0, .string ⟨#[]⟩, .string ⟨#[]⟩, .string ⟨#[]⟩, .string ⟨#[]⟩, .int .i64 0, .bool false, .int .i64 0, .slice none 0 0, .bool false] 31)).alloc (.cells #[.slice a n c, .int .i64 0] 58) = U at *
  have HTR := hid htr
  have W1 := hid hW
  have K1 := hid (K0.out.to ho (fun e => by omega))
  have B1 : Hid (Below w.heap.size w w1) := B0.out.trans (ho.below B0.out.size (fun b hb e => by omega))
  clear htr hW ho RM0 K0 B0
  have hbM := below_new (o := .cells #[.int .i64 m.kd, .int .i64 m.c, .int .i64 m.e, .int .i64 m.n, .int .i64 m.sh, .int .i64 m.nu, .int .i64 m.st, .int .i64 m.k, .string m.ky, .string m.vl, .string m.lo, .string m.hi, .int .i64 m.mo, .bool m.bk, .int .i64 m.cd, .slice pa pn pc, .bool m.ys] 31) (w := w1) (Below.refl _ _)
  have W2 := hid (W1.out.below hbM)
  have K2 := hid (K1.out.below hbM)
  have B2 := hid (btR B1.out hbM)
  have I2 := hid (Bk.new w1 31 [.int .i64 m.kd, .int .i64 m.c, .int .i64 m.e, .int .i64 m.n, .int .i64 m.sh, .int .i64 m.nu, .int .i64 m.st, .int .i64 m.k, .string m.ky, .string m.vl, .string m.lo, .string m.hi, .int .i64 m.mo, .bool m.bk, .int .i64 m.cd, .slice pa pn pc, .bool m.ys])
  have C2 := hid (implMsgBytes_any (fun _ => True) m.ps m.kd m.c m.e m.n m.sh m.nu m.st m.k m.ky m.vl m.lo m.hi m.mo m.bk m.cd pa pn pc m.ys _ W2.out.r)
  have L2 : Hid (w.heap.size < w1.heap.size) := K1.out.lt
  clear hbM W1 K1 B1
  go_wp2_with (first
    | (refine wpList_store_row rfl 31 _ _ rfl w1.heap.size _ rfl rfl 31 _ (heap_alloc_new w1 _) (by kernel_rfl) rfl (by kernel_rfl) ?_; rw [World.setRow_alloc_new])
    | (refine wpList_load_row rfl 31 _ rfl w1.heap.size rfl 31 _ (0, 0) _ I2.out Tryd.underlying31 rfl (by kernel_rfl) ?_))
  refine C2.out.mono ?_
  clear C2
  generalize w1.alloc (.cells #[.int .i64 m.kd, .int .i64 m.c, .int .i64 m.e, .int .i64 m.n, .int .i64 m.sh, .int .i64 m.nu, .int .i64 m.st, .int .i64 m.k, .string m.ky, .string m.vl, .string m.lo, .string m.hi, .int .i64 m.mo, .bool m.bk, .int .i64 m.cd, .slice pa pn pc, .bool m.ys] 31) = V2 at *
  generalize w1.heap.size = b2 at *
  intro r w3 hp
  obtain ⟨hb3, hp⟩ := hp
  have W3 := hid (W2.out.below hb3)
  have K3 := hid (K2.out.below hb3)
  have I3 := hid (I2.out.below hb3)
  have B3 := hid (btR B2.out hb3)
  clear W2 K2 I2 B2
  have HNO : Hid (m.bytes ≠ some zs → ∀ m' : MS, m'.bytes ≠ some zs) := fun hne m' hm' => hne (by rw [trc_bytes (by omega) HTR.out hm']; exact hm')
  have NE : Hid (Below w.heap.size w (w3.setRow w.heap.size #[.int .i64 0, .int .i64 0, .int .i64 0, .int .i64 0, .int .i64 0, .int .i64 0, .int .i64 0, .int .i64 0, .string ⟨#[]⟩, .string ⟨#[]⟩, .string ⟨#[]⟩, .string ⟨#[]⟩, .int .i64 0, .bool false, .int .i64 0, .slice none 0 0, .bool false]) ∧ Bk (w3.setRow w.heap.size #[.int .i64 0, .int .i64 0, .int .i64 0, .int .i64 0, .int .i64 0, .int .i64 0, .int .i64 0, .int .i64 0, .string ⟨#[]⟩, .string ⟨#[]⟩, .string ⟨#[]⟩, .string ⟨#[]⟩, .int .i64 0, .bool false, .int .i64 0, .slice none 0 0, .bool false]) w.heap.size 31 [.int .i64 0, .int .i64 0, .int .i64 0, .int .i64 0, .int .i64 0, .int .i64 0, .int .i64 0, .int .i64 0, .string ⟨#[]⟩, .string ⟨#[]⟩, .string ⟨#[]⟩, .string ⟨#[]⟩, .int .i64 0, .bool false, .int .i64 0, .slice none 0 0, .bool false]) := ⟨B3.out.trans ((only_setRow (R := fun y => y = w.heap.size) rfl _).below B3.out.size (fun b hb e => by omega)), K3.out.setRow [.int .i64 0, .int .i64 0, .int .i64 0, .int .i64 0, .int .i64 0, .int .i64 0, .int .i64 0, .int .i64 0, .string ⟨#[]⟩, .string ⟨#[]⟩, .string ⟨#[]⟩, .string ⟨#[]⟩, .int .i64 0, .bool false, .int .i64 0, .slice none 0 0, .bool false]⟩
  rcases hp with ⟨hn, rfl⟩ | ⟨v, zs', hn, rfl, hob⟩
  · have HN : Hid (m.bytes ≠ some zs) := by
      intro e
      have e2 : m.bytes = none := hn
      rw [e2] at e
      cases e
    clear hn
    go_wp2_with (refine wpList_store_row rfl 31 _ _ rfl w.heap.size #[.int .i64 0, .int .i64 0, .int .i64 0, .int .i64 0, .int .i64 0, .int .i64 0, .int .i64 0, .int .i64 0, .string ⟨#[]⟩, .string ⟨#[]⟩, .string ⟨#[]⟩, .string ⟨#[]⟩, .int .i64 0, .bool false, .int .i64 0, .slice none 0 0, .bool false] rfl rfl 31 _ K3.out (by kernel_rfl) rfl (by kernel_rfl) ?_)
    try simp only [Exit.inBlock, Exit.then]
    refine bodyPost_ret (v := .tuple #[.agg #[.int .i64 0, .int .i64 0, .int .i64 0, .int .i64 0, .int .i64 0, .int .i64 0, .int .i64 0, .int .i64 0, .string ⟨#[]⟩, .string ⟨#[]⟩, .string ⟨#[]⟩, .string ⟨#[]⟩, .int .i64 0, .bool false, .int .i64 0, .slice none 0 0, .bool false], .bool false]) ?_ rfl ?_
    · exact results_msg_bool rfl _ _ w.heap.size rfl rfl (NE.out.2.cell (j := 0) rfl) (NE.out.2.cell (j := 1) rfl) (NE.out.2.cell (j := 2) rfl) (NE.out.2.cell (j := 3) rfl) (NE.out.2.cell (j := 4) rfl) (NE.out.2.cell (j := 5) rfl) (NE.out.2.cell (j := 6) rfl) (NE.out.2.cell (j := 7) rfl) (NE.out.2.cell (j := 8) rfl) (NE.out.2.cell (j := 9) rfl) (NE.out.2.cell (j := 10) rfl) (NE.out.2.cell (j := 11) rfl) (NE.out.2.cell (j := 12) rfl) (NE.out.2.cell (j := 13) rfl) (NE.out.2.cell (j := 14) rfl) (NE.out.2.cell (j := 15) rfl) (NE.out.2.cell (j := 16) rfl)
    · exact ⟨NE.out.1, .inr ⟨HNO.out HN.out, rfl⟩⟩
  · have e2 : m.bytes = some zs' := hn
    have HF : Hid (∀ z ∈ zs', 0 ≤ z ∧ z ≤ 255) := by
      have := hn
      unfold mgBytes at this
      split at this
      · rename_i hok
        rw [← Option.some.inj this]
        exact (mgOk_facts hok).byte _ _
      · cases this
    have HFL : Hid (zs'.length ≤ 4096) := by
      have := hn
      unfold mgBytes at this
      split at this
      · rename_i hok
        rw [← Option.some.inj this]
        have := (mgOk_facts hok).len m.bk m.ys
        show _ ≤ _
        omega
      · cases this
    obtain ⟨xa, xc, rfl, hrx⟩ := hob.rd' HF.out HFL.out
    have RX := hid hrx
    have R0 := hid (H0.out.kept B3.out)
    clear hrx hob hn
    have E2 := hid e2
    clear e2
    have CE := hid (bytesEqual_any xa a zs'.length n xc c zs' zs w3 RX.out R0.out)
    by_cases heq : zs' = zs
    · have HEQ : Hid (m.bytes = some zs) := by show _ = _; rw [← heq]; exact E2.out
      have CE2 := hid CE.out
      rw [decide_eq_true heq] at CE2
      have NT : Hid (Below w.heap.size w (w3.setRow w.heap.size #[.int .i64 m.kd, .int .i64 m.c, .int .i64 m.e, .int .i64 m.n, .int .i64 m.sh, .int .i64 m.nu, .int .i64 m.st, .int .i64 m.k, .string m.ky, .string m.vl, .string m.lo, .string m.hi, .int .i64 m.mo, .bool m.bk, .int .i64 m.cd, .slice pa pn pc, .bool m.ys]) ∧ Bk (w3.setRow w.heap.size #[.int .i64 m.kd, .int .i64 m.c, .int .i64 m.e, .int .i64 m.n, .int .i64 m.sh, .int .i64 m.nu, .int .i64 m.st, .int .i64 m.k, .string m.ky, .string m.vl, .string m.lo, .string m.hi, .int .i64 m.mo, .bool m.bk, .int .i64 m.cd, .slice pa pn pc, .bool m.ys]) w.heap.size 31 [.int .i64 m.kd, .int .i64 m.c, .int .i64 m.e, .int .i64 m.n, .int .i64 m.sh, .int .i64 m.nu, .int .i64 m.st, .int .i64 m.k, .string m.ky, .string m.vl, .string m.lo, .string m.hi, .int .i64 m.mo, .bool m.bk, .int .i64 m.cd, .slice pa pn pc, .bool m.ys] ∧ oqW (w3.setRow w.heap.size #[.int .i64 m.kd, .int .i64 m.c, .int .i64 m.e, .int .i64 m.n, .int .i64 m.sh, .int .i64 m.nu, .int .i64 m.st, .int .i64 m.k, .string m.ky, .string m.vl, .string m.lo, .string m.hi, .int .i64 m.mo, .bool m.bk, .int .i64 m.cd, .slice pa pn pc, .bool m.ys]) w.heap.size (.slice pa pn pc) m.ps) := ⟨B3.out.trans ((only_setRow (R := fun y => y = w.heap.size) rfl _).below B3.out.size (fun b hb e => by omega)), K3.out.setRow [.int .i64 m.kd, .int .i64 m.c, .int .i64 m.e, .int .i64 m.n, .int .i64 m.sh, .int .i64 m.nu, .int .i64 m.st, .int .i64 m.k, .string m.ky, .string m.vl, .string m.lo, .string m.hi, .int .i64 m.mo, .bool m.bk, .int .i64 m.cd, .slice pa pn pc, .bool m.ys], (W3.out.to (only_setRow (R := fun y => y = w.heap.size) rfl _) (fun y hy e => by have := W3.out.lt hy; omega)).base (by omega)⟩
      clear CE heq
      go_wp2_with fail
      refine CE2.out.mono ?_
      rintro r w4 ⟨rfl, rfl⟩
      go_wp2_with (first
        | (refine wpList_load_row rfl 31 _ rfl b2 rfl 31 _ (0, 0) _ I3.out Tryd.underlying31 rfl (by kernel_rfl) ?_; go_frame)
        | (refine wpList_store_row rfl 31 _ _ rfl w.heap.size #[.int .i64 m.kd, .int .i64 m.c, .int .i64 m.e, .int .i64 m.n, .int .i64 m.sh, .int .i64 m.nu, .int .i64 m.st, .int .i64 m.k, .string m.ky, .string m.vl, .string m.lo, .string m.hi, .int .i64 m.mo, .bool m.bk, .int .i64 m.cd, .slice pa pn pc, .bool m.ys] rfl rfl 31 _ K3.out (by kernel_rfl) rfl (by kernel_rfl) ?_))
      try simp only [Exit.inBlock, Exit.then]
      refine bodyPost_ret (v := .tuple #[.agg #[.int .i64 m.kd, .int .i64 m.c, .int .i64 m.e, .int .i64 m.n, .int .i64 m.sh, .int .i64 m.nu, .int .i64 m.st, .int .i64 m.k, .string m.ky, .string m.vl, .string m.lo, .string m.hi, .int .i64 m.mo, .bool m.bk, .int .i64 m.cd, .slice pa pn pc, .bool m.ys], .bool true]) ?_ rfl ?_
      · exact results_msg_bool rfl _ _ w.heap.size rfl rfl (NT.out.2.1.cell (j := 0) rfl) (NT.out.2.1.cell (j := 1) rfl) (NT.out.2.1.cell (j := 2) rfl) (NT.out.2.1.cell (j := 3) rfl) (NT.out.2.1.cell (j := 4) rfl) (NT.out.2.1.cell (j := 5) rfl) (NT.out.2.1.cell (j := 6) rfl) (NT.out.2.1.cell (j := 7) rfl) (NT.out.2.1.cell (j := 8) rfl) (NT.out.2.1.cell (j := 9) rfl) (NT.out.2.1.cell (j := 10) rfl) (NT.out.2.1.cell (j := 11) rfl) (NT.out.2.1.cell (j := 12) rfl) (NT.out.2.1.cell (j := 13) rfl) (NT.out.2.1.cell (j := 14) rfl) (NT.out.2.1.cell (j := 15) rfl) (NT.out.2.1.cell (j := 16) rfl)
      · exact ⟨NT.out.1, .inl ⟨m, pa, pn, pc, HEQ.out, rfl, NT.out.2.2⟩⟩
    · have HN : Hid (m.bytes ≠ some zs) := by
        intro e
        rw [E2.out] at e
        exact heq (Option.some.inj e)
      have CE2 := hid CE.out
      rw [decide_eq_false heq] at CE2
      clear CE heq
      go_wp2_with fail
      refine CE2.out.mono ?_
      rintro r w4 ⟨rfl, rfl⟩
      go_wp2_with (refine wpList_store_row rfl 31 _ _ rfl w.heap.size #[.int .i64 0, .int .i64 0, .int .i64 0, .int .i64 0, .int .i64 0, .int .i64 0, .int .i64 0, .int .i64 0, .string ⟨#[]⟩, .string ⟨#[]⟩, .string ⟨#[]⟩, .string ⟨#[]⟩, .int .i64 0, .bool false, .int .i64 0, .slice none 0 0, .bool false] rfl rfl 31 _ K3.out (by kernel_rfl) rfl (by kernel_rfl) ?_)
      try simp only [Exit.inBlock, Exit.then]
      refine bodyPost_ret (v := .tuple #[.agg #[.int .i64 0, .int .i64 0, .int .i64 0, .int .i64 0, .int .i64 0, .int .i64 0, .int .i64 0, .int .i64 0, .string ⟨#[]⟩, .string ⟨#[]⟩, .string ⟨#[]⟩, .string ⟨#[]⟩, .int .i64 0, .bool false, .int .i64 0, .slice none 0 0, .bool false], .bool false]) ?_ rfl ?_
      · exact results_msg_bool rfl _ _ w.heap.size rfl rfl (NE.out.2.cell (j := 0) rfl) (NE.out.2.cell (j := 1) rfl) (NE.out.2.cell (j := 2) rfl) (NE.out.2.cell (j := 3) rfl) (NE.out.2.cell (j := 4) rfl) (NE.out.2.cell (j := 5) rfl) (NE.out.2.cell (j := 6) rfl) (NE.out.2.cell (j := 7) rfl) (NE.out.2.cell (j := 8) rfl) (NE.out.2.cell (j := 9) rfl) (NE.out.2.cell (j := 10) rfl) (NE.out.2.cell (j := 11) rfl) (NE.out.2.cell (j := 12) rfl) (NE.out.2.cell (j := 13) rfl) (NE.out.2.cell (j := 14) rfl) (NE.out.2.cell (j := 15) rfl) (NE.out.2.cell (j := 16) rfl)
      · exact ⟨NE.out.1, .inr ⟨HNO.out HN.out, rfl⟩⟩
end Go.Proofs.YtbaggkfgnjenoacDoor
/-
  What the specification's MsgRead keeps while it reads: rows of numbers and texts as far as read.
-/
namespace Go.Proofs.YtbaggkfgnjenoacDoor
open Go.RowKit
set_option linter.unusedVariables false
def vrow (l : List Int) (N : Nat) : List Value := l.map (Value.int .i64) ++ List.replicate (N - l.length) (.int .i64 0)
def trow (l : List ByteArray) (N : Nat) : List Value := l.map Value.string ++ List.replicate (N - l.length) (.string ⟨#[]⟩)
theorem vrow_at {l : List Int} {N : Nat} (h : l.length < N) : (vrow l N)[l.length]? = some (.int .i64 0) := by
  unfold vrow
  rw [List.getElem?_append_right (by simp), List.length_map, Nat.sub_self, List.getElem?_replicate, if_pos (by omega)]
theorem trow_at {l : List ByteArray} {N : Nat} (h : l.length < N) : (trow l N)[l.length]? = some (.string ⟨#[]⟩) := by
  unfold trow
  rw [List.getElem?_append_right (by simp), List.length_map, Nat.sub_self, List.getElem?_replicate, if_pos (by omega)]
theorem vrow_set {l : List Int} {N : Nat} (h : l.length < N) (x : Int) : (vrow l N).set l.length (.int .i64 x) = vrow (l ++ [x]) N := by
  unfold vrow
  rw [List.set_append_right _ _ (by simp), List.length_map, Nat.sub_self, List.length_append, show N - l.length = (N - (l.length + 1)) + 1 by omega, List.replicate_succ, List.set_cons_zero, List.map_append, List.append_assoc]
  rfl
theorem trow_set {l : List ByteArray} {N : Nat} (h : l.length < N) (x : ByteArray) : (trow l N).set l.length (.string x) = trow (l ++ [x]) N := by
  unfold trow
  rw [List.set_append_right _ _ (by simp), List.length_map, Nat.sub_self, List.length_append, show N - l.length = (N - (l.length + 1)) + 1 by omega, List.replicate_succ, List.set_cons_zero, List.map_append, List.append_assoc]
  rfl
theorem made_rep (v : Value) (n : Nat) : madeCells #[v] n = (List.replicate n v).toArray := by
  apply Array.ext
  · simp [madeCells]
  · intro i h1 h2
    simp [madeCells, Nat.mod_one]
theorem len4 {α : Type} {l : List α} (h : l.length = 4) : ∃ a b c d, l = [a, b, c, d] := by
  match l, h with
  | [a, b, c, d], _ => exact ⟨a, b, c, d, rfl⟩
theorem len8 {α : Type} {l : List α} (h : l.length = 8) : ∃ a b c d e f g i, l = [a, b, c, d, e, f, g, i] := by
  match l, h with
  | [a, b, c, d, e, f, g, i], _ => exact ⟨a, b, c, d, e, f, g, i, rfl⟩
/-- The boxes: the result, the message, the numbers, the texts. -/
structure MQ (w v : World) (mc vs ts : List Value) : Prop where
  bel : Below w.heap.size w v
  kJ : Bk v w.heap.size 31 [.int .i64 0, .int .i64 0, .int .i64 0, .int .i64 0, .int .i64 0, .int .i64 0, .int .i64 0, .int .i64 0, .string ⟨#[]⟩, .string ⟨#[]⟩, .string ⟨#[]⟩, .string ⟨#[]⟩, .int .i64 0, .bool false, .int .i64 0, .slice none 0 0, .bool false]
  kI : Bk v (w.heap.size + 1) 31 mc
  kV : Bk v (w.heap.size + 1 + 1) 3 vs
  kS : Bk v (w.heap.size + 1 + 1 + 1) 9 ts
theorem MQ.below {w v v' : World} {mc vs ts : List Value} (h : MQ w v mc vs ts) (hb : Below v.heap.size v v') : MQ w v' mc vs ts := ⟨btR h.bel hb, h.kJ.below hb, h.kI.below hb, h.kV.below hb, h.kS.below hb⟩
theorem MQ.to {w v v' : World} {mc vs ts : List Value} {R : Nat → Prop} (h : MQ w v mc vs ts) (ho : Only R v v') (hR : ∀ y, R y → w.heap.size + 1 + 1 + 1 < y) : MQ w v' mc vs ts :=
  ⟨h.bel.trans (ho.below h.bel.size (fun b hb e => by have := hR b e; omega)), h.kJ.to ho (fun e => by have := hR _ e; omega), h.kI.to ho (fun e => by have := hR _ e; omega), h.kV.to ho (fun e => by have := hR _ e; omega), h.kS.to ho (fun e => by have := hR _ e; omega)⟩
theorem MQ.setV {w v : World} {mc vs ts : List Value} (h : MQ w v mc vs ts) (j : Nat) (x : Value) : MQ w (v.setCell ⟨w.heap.size + 1 + 1, j, none⟩ x) mc (vs.set j x) ts :=
  ⟨h.bel.setCell (p := ⟨w.heap.size + 1 + 1, j, none⟩) (by simp; omega) _, h.kJ.setOther (by omega) _ _, h.kI.setOther (by omega) _ _, h.kV.set j x, h.kS.setOther (by omega) _ _⟩
theorem MQ.setS {w v : World} {mc vs ts : List Value} (h : MQ w v mc vs ts) (j : Nat) (x : Value) : MQ w (v.setCell ⟨w.heap.size + 1 + 1 + 1, j, none⟩ x) mc vs (ts.set j x) :=
  ⟨h.bel.setCell (p := ⟨w.heap.size + 1 + 1 + 1, j, none⟩) (by simp; omega) _, h.kJ.setOther (by omega) _ _, h.kI.setOther (by omega) _ _, h.kV.setOther (by omega) _ _, h.kS.set j x⟩
theorem MQ.setI {w v : World} {mc vs ts : List Value} (h : MQ w v mc vs ts) (j : Nat) (x : Value) : MQ w (v.setCell ⟨w.heap.size + 1, j, none⟩ x) (mc.set j x) vs ts :=
  ⟨h.bel.setCell (p := ⟨w.heap.size + 1, j, none⟩) (by simp) _, h.kJ.setOther (by omega) _ _, h.kI.set j x, h.kV.setOther (by omega) _ _, h.kS.setOther (by omega) _ _⟩
theorem MQ.setIE {w v : World} {mc vs ts : List Value} (h : MQ w v mc vs ts) (j : Nat) (x : Value) {ys : List Value} (e : mc.set j x = ys) : MQ w (v.setCell ⟨w.heap.size + 1, j, none⟩ x) ys vs ts := by rw [← e]; exact h.setI j x
theorem MQ.setVE {w v : World} {mc vs ts : List Value} (h : MQ w v mc vs ts) (j : Nat) (x : Value) {ys : List Value} (e : vs.set j x = ys) : MQ w (v.setCell ⟨w.heap.size + 1 + 1, j, none⟩ x) mc ys ts := by rw [← e]; exact h.setV j x
theorem MQ.rowI {w v : World} {mc vs ts : List Value} (h : MQ w v mc vs ts) (ys : List Value) : MQ w (v.setRow (w.heap.size + 1) ys.toArray) ys vs ts := by
  have ho := only_setRow (R := fun y => y = w.heap.size + 1) (w := v) (g := w.heap.size + 1) rfl ys.toArray
  exact ⟨h.bel.trans (ho.below h.bel.size (fun b hb e => by omega)), h.kJ.to ho (fun e => by omega), h.kI.setRow ys, h.kV.to ho (fun e => by omega), h.kS.to ho (fun e => by omega)⟩
end Go.Proofs.YtbaggkfgnjenoacDoor
/-
  MsgRead of the specification.
-/
namespace Go.Proofs.YtbaggkfgnjenoacDoor
open Go.RowKit
set_option linter.unusedVariables false
theorem infoI9 : (Tryd.prog.info? 3).map (fun i => (i.zero, i.size, i.bytes)) = some (some (.int .i64 0), 1, 8) := by kernel_rfl
theorem infoS9 : (Tryd.prog.info? 9).map (fun i => (i.zero, i.size, i.bytes)) = some (some (.string ⟨#[]⟩), 1, 16) := by kernel_rfl
end Go.Proofs.YtbaggkfgnjenoacDoor
/-
  The law FnExactMsgRead answers true at every row of bytes.
-/
namespace Go.Proofs.YtbaggkfgnjenoacDoor
open Go.RowKit
set_option linter.unusedVariables false
theorem nrd_ex (zs : List Int) : ∀ (k : Nat) (p : Int), ∃ l q, l.length = k ∧ NRd zs p l q
  | 0, p => ⟨[], p, rfl, rfl⟩
  | k + 1, p => by
    obtain ⟨l, q, h1, h2⟩ := nrd_ex zs k (gv zs p).2
    exact ⟨(gv zs p).1 :: l, q, by simp [h1], _, rfl, h2⟩
theorem trd_ex (zs : List Int) : ∀ (k : Nat) (p : Int), ∃ l q, l.length = k ∧ TRd zs p l q
  | 0, p => ⟨[], p, rfl, rfl⟩
  | k + 1, p => by
    obtain ⟨l, q, h1, h2⟩ := trd_ex zs k (gt zs p).2
    exact ⟨strOf (gt zs p).1 :: l, q, by simp [h1], _, rfl, h2⟩
theorem prd_ex (zs : List Int) : ∀ (k : Nat) (p : Int), ∃ l q, l.length = k ∧ PRd zs p l q
  | 0, p => ⟨[], p, rfl, rfl⟩
  | k + 1, p => by
    obtain ⟨l, q, h1, h2⟩ := prd_ex zs k (gt zs (gt zs p).2).2
    exact ⟨(strOf (gt zs p).1, strOf (gt zs (gt zs p).2).1) :: l, q, by simp [h1], _, ⟨_, rfl, _, rfl, rfl⟩, h2⟩
theorem trc_ex (zs : List Int) : ∃ m, Trc 8 zs m := by
  obtain ⟨l, p1, h1, k1⟩ := nrd_ex zs 8 0
  obtain ⟨x0, x1, x2, x3, x4, x5, x6, x7, rfl⟩ := len8 h1
  obtain ⟨l, p2, h2, k2⟩ := trd_ex zs 4 p1
  obtain ⟨s0, s1, s2, s3, rfl⟩ := len4 h2
  obtain ⟨l, p3, h3, k3⟩ := nrd_ex zs 4 p2
  obtain ⟨y0, y1, y2, y3, rfl⟩ := len4 h3
  obtain ⟨ps, p4, h4, k4⟩ := prd_ex zs (max 0 (min y3 8)).toNat p3
  exact ⟨⟨x0, x1, x2, x3, x4, x5, x6, x7, s0, s1, s2, s3, y0, decide (y1 = 1), y2, ps, decide ((gv zs p4).1 = 1)⟩, p1, p2, p3, p4, (gv zs p4).2, y1, y3, (gv zs p4).1, k1, k2, k3, k4, by show (ps.length : Int) = _; rw [h4]; omega, ⟨_, rfl, rfl⟩, rfl, rfl⟩
theorem bytes_inj {zs : List Int} {m m' : MS} (h : m.bytes = some zs) (h' : m'.bytes = some zs) : m = m' := by
  obtain ⟨m0, k⟩ := trc_ex zs
  exact (trc_bytes (by omega) k h).symm.trans (trc_bytes (by omega) k h')
def MS0 : MS := ⟨0, 0, 0, 0, 0, 0, 0, 0, ⟨#[]⟩, ⟨#[]⟩, ⟨#[]⟩, ⟨#[]⟩, 0, false, 0, [], false⟩
/-- What comes of reading. -/
def Out (zs : List Int) (m : MS) (b : Bool) : Prop := (b = true ∧ m.bytes = some zs) ∨ (b = false ∧ (∀ m : MS, m.bytes ≠ some zs) ∧ m = MS0)
theorem Out.uniq {zs : List Int} {m m' : MS} {b b' : Bool} (h : Out zs m b) (h' : Out zs m' b') : m' = m ∧ b' = b := by
  rcases h with ⟨rfl, h⟩ | ⟨rfl, h, rfl⟩ <;> rcases h' with ⟨rfl, h'⟩ | ⟨rfl, h', rfl⟩
  · exact ⟨bytes_inj h' h, rfl⟩
  · exact absurd h (h' _)
  · exact absurd h' (h _)
  · exact ⟨rfl, rfl⟩
theorem Out.small {zs : List Int} {m : MS} {b : Bool} (h : Out zs m b) : m.ps.length ≤ 8 := by
  rcases h with ⟨_, h⟩ | ⟨_, _, rfl⟩
  · unfold MS.bytes mgBytes at h
    split at h
    · rename_i hok
      exact (mgOk_facts hok).hpl
    · cases h
  · decide
theorem RdP.see {zs : List Int} {w w' : World} {r : Ending} (h : RdP zs w r w') : ∃ (m : MS) (pa : Option Addr) (pn pc : Nat) (b : Bool), r = .returned (.tuple #[.agg #[.int .i64 m.kd, .int .i64 m.c, .int .i64 m.e, .int .i64 m.n, .int .i64 m.sh, .int .i64 m.nu, .int .i64 m.st, .int .i64 m.k, .string m.ky, .string m.vl, .string m.lo, .string m.hi, .int .i64 m.mo, .bool m.bk, .int .i64 m.cd, .slice pa pn pc, .bool m.ys], .bool b]) ∧ oqW w' w.heap.size (.slice pa pn pc) m.ps ∧ Below w.heap.size w w' ∧ Out zs m b := by
  obtain ⟨hb, ⟨m, pa, pn, pc, h1, rfl, h2⟩ | ⟨h1, rfl⟩⟩ := h
  · exact ⟨m, pa, pn, pc, true, rfl, h2, hb, .inl ⟨rfl, h1⟩⟩
  · exact ⟨MS0, none, 0, 0, false, rfl, oqw_nil _ _, hb, .inr ⟨rfl, h1, rfl⟩⟩
end Go.Proofs.YtbaggkfgnjenoacDoor
/-
  The law FnMsg answers true at every code, if its draw comes to some message.
-/
namespace Go.Proofs.YtbaggkfgnjenoacDoor
open Go.RowKit
set_option linter.unusedVariables false
/-- What is wanted of the draw: some message. -/
def DrawM : Prop := ∀ (a : Option Addr) (n c : Nat) (zs : List Int) (w : World), Rd w a n c zs → n ≤ 1048576 → Calls Tryd.prog 4 #[.slice a n c] w fun r w' => ∃ (m : MS) (pa : Option Addr) (pn pc : Nat), r = .returned (.agg #[.int .i64 m.kd, .int .i64 m.c, .int .i64 m.e, .int .i64 m.n, .int .i64 m.sh, .int .i64 m.nu, .int .i64 m.st, .int .i64 m.k, .string m.ky, .string m.vl, .string m.lo, .string m.hi, .int .i64 m.mo, .bool m.bk, .int .i64 m.cd, .slice pa pn pc, .bool m.ys]) ∧ oqW w' w.heap.size (.slice pa pn pc) m.ps ∧ Below w.heap.size w w'
theorem bytes_some (m : MS) : m.bytes ≠ some [] := by
  intro h
  unfold MS.bytes mgBytes at h
  split at h
  · have h1 := Option.some.inj h
    have h2 := congrArg List.length h1
    have h3 := enc_len m.kd
    unfold mgBy at h2
    simp only [nparts, List.length_append, List.length_nil] at h2
    omega
  · cases h
theorem MS.bytes_ok (m : MS) : (mgOk m.kd m.c m.e m.n m.sh m.nu m.st (akOk m.k m.ky m.vl m.lo m.hi m.mo m.bk) (akZ m.k m.ky m.vl m.lo m.hi m.mo m.bk) m.cd m.ps m.ys) = m.bytes.isSome := by
  unfold MS.bytes mgBytes
  cases h : mgOk m.kd m.c m.e m.n m.sh m.nu m.st (akOk m.k m.ky m.vl m.lo m.hi m.mo m.bk) (akZ m.k m.ky m.vl m.lo m.hi m.mo m.bk) m.cd m.ps m.ys <;> simp
theorem MS.bytes_small {m : MS} {zs : List Int} (h : m.bytes = some zs) : (∀ z ∈ zs, 0 ≤ z ∧ z ≤ 255) ∧ zs.length ≤ 4096 := by
  unfold MS.bytes mgBytes at h
  split at h
  · rename_i hok
    have hF := mgOk_facts hok
    have hl := hF.len m.bk m.ys
    rw [← Option.some.inj h]
    exact ⟨hF.byte _ _, by omega⟩
  · cases h
set_option maxHeartbeats 16000000 in
set_option maxRecDepth 20000 in
theorem lawFMsg_road (hD : DrawM) (a : Option Addr) (n c : Nat) (zs : List Int) (w : World) (h : Rd w a n c zs) (hn : n ≤ 1048576) :
    Calls Tryd.prog 3 #[.slice a n c] w fun e w' => e = .returned (.bool true) ∧ Below w.heap.size w w' := by
  have hbig : ¬ (1048576 : Int) < (n : Int) := by omega
  have HD := hid (hD a n c zs w h hn)
  clear h hD
  go_enter Tryd.func3, Tryd.ntmps3
  go_wp2_with fail
  refine HD.out.mono ?_
  clear HD
  rintro r w1 ⟨m, pa, pn, pc, rfl, hO, hb⟩
  obtain ⟨BM, HBM⟩ : ∃ BM, w.heap.size = BM := ⟨_, rfl⟩
  have hbN := below_new (o := .cells #[.int .i64 m.kd, .int .i64 m.c, .int .i64 m.e, .int .i64 m.n, .int .i64 m.sh, .int .i64 m.nu, .int .i64 m.st, .int .i64 m.k, .string m.ky, .string m.vl, .string m.lo, .string m.hi, .int .i64 m.mo, .bool m.bk, .int .i64 m.cd, .slice pa pn pc, .bool m.ys] 31) (w := w1) (Below.refl _ _)
  have M1 := hid (MB9.new (kd := m.kd) (c := m.c) (e := m.e) (n := m.n) (sh := m.sh) (nu := m.nu) (st := m.st) (k := m.k) (ky := m.ky) (vl := m.vl) (lo := m.lo) (hi := m.hi) (mo := m.mo) (bk := m.bk) (cd := m.cd) (ys := m.ys) hO)
  have B1 := hid (btR hb hbN)
  clear hO hb hbN HBM BM
  have CB := hid (implMsgBytes_any (fun _ => True) m.ps m.kd m.c m.e m.n m.sh m.nu m.st m.k m.ky m.vl m.lo m.hi m.mo m.bk m.cd pa pn pc m.ys _ M1.out.own.r)
  go_wp2_with (first
    | (refine wpList_store_row rfl 31 _ _ rfl w1.heap.size _ rfl rfl 31 _ (heap_alloc_new w1 _) (by kernel_rfl) rfl (by kernel_rfl) ?_; rw [World.setRow_alloc_new])
    | (refine wpList_load_row rfl 31 _ rfl w1.heap.size rfl 31 _ (0, 0) _ M1.out.box Tryd.underlying31 rfl (by kernel_rfl) ?_))
  refine CB.out.mono ?_
  generalize w1.alloc (.cells #[.int .i64 m.kd, .int .i64 m.c, .int .i64 m.e, .int .i64 m.n, .int .i64 m.sh, .int .i64 m.nu, .int .i64 m.st, .int .i64 m.k, .string m.ky, .string m.vl, .string m.lo, .string m.hi, .int .i64 m.mo, .bool m.bk, .int .i64 m.cd, .slice pa pn pc, .bool m.ys] 31) = V1 at *
  generalize w1.heap.size = bM at *
  clear CB
  intro r w2 hp
  obtain ⟨hb2, hp⟩ := hp
  have M2 := hid (M1.out.below hb2)
  have B2 := hid (btR B1.out hb2)
  have hsz : Hid (w.heap.size ≤ V1.heap.size) := B1.out.size
  clear M1 B1 hb2
  have CO := hid (specMsgOk_any (fun _ => True) m.ps m.kd m.c m.e m.n m.sh m.nu m.st m.k m.ky m.vl m.lo m.hi m.mo m.bk m.cd pa pn pc m.ys w2 M2.out.own.r)
  rw [m.bytes_ok] at CO
  rcases hp with ⟨hnone, rfl⟩ | ⟨v, out, hsome, rfl, hob⟩
  · have hno : m.bytes = none := hnone
    rw [hno] at CO
    clear hnone
    have HNO := hid hno
    clear hno
    go_wp2_with (refine wpList_load_row rfl 31 _ rfl bM rfl 31 _ (0, 0) _ M2.out.box Tryd.underlying31 rfl (by kernel_rfl) ?_)
    refine CO.out.mono ?_
    rintro r w3 ⟨rfl, hb⟩
    have B3 := hid (btR B2.out hb)
    clear hb CO M2 B2
    go_wp2_with fail
    refine (implMsgRead_any none 0 0 [] w3 (rd_empty w3 none)).mono ?_
    intro r w4 hp
    obtain ⟨m', qa, qn, qc, b', rfl, hO, hb, hout⟩ := hp.see
    obtain rfl : b' = false := by
      rcases hout with ⟨rfl, e⟩ | ⟨rfl, _⟩
      · exact absurd e (bytes_some _)
      · rfl
    have B4 := hid (btR B3.out (btR hb (below_new (o := .cells #[.int .i64 m'.kd, .int .i64 m'.c, .int .i64 m'.e, .int .i64 m'.n, .int .i64 m'.sh, .int .i64 m'.nu, .int .i64 m'.st, .int .i64 m'.k, .string m'.ky, .string m'.vl, .string m'.lo, .string m'.hi, .int .i64 m'.mo, .bool m'.bk, .int .i64 m'.cd, .slice qa qn qc, .bool m'.ys] 31) (w := w4) (Below.refl _ _))))
    clear hp hout hO hb B3
    go_wp2_with (refine wpList_store_row rfl 31 _ _ rfl w4.heap.size _ rfl rfl 31 _ (heap_alloc_new w4 _) (by kernel_rfl) rfl (by kernel_rfl) ?_; rw [World.setRow_alloc_new])
    go_ret
    exact ⟨rfl, B4.out⟩
  · have hs : m.bytes = some out := hsome
    rw [hs] at CO
    clear hsome
    have HS := hid hs
    have HSM := hid (MS.bytes_small hs)
    clear hs
    obtain ⟨xa, xc, rfl, hrx⟩ := hob.rd' HSM.out.1 HSM.out.2
    have RX := hid hrx
    clear hob hrx
    go_wp2_with (refine wpList_load_row rfl 31 _ rfl bM rfl 31 _ (0, 0) _ M2.out.box Tryd.underlying31 rfl (by kernel_rfl) ?_)
    refine CO.out.mono ?_
    rintro r w3 ⟨rfl, hb⟩
    have M3 := hid (M2.out.below hb)
    have B3 := hid (btR B2.out hb)
    have R3 := hid (RX.out.kept hb)
    clear hb CO M2 B2 RX
    go_wp2_with fail
    refine (implMsgRead_any xa _ xc out w3 R3.out).mono ?_
    intro r w4 hp
    obtain ⟨m', qa, qn, qc, b', rfl, hO, hb, hout⟩ := hp.see
    obtain ⟨rfl, rfl⟩ : m' = m ∧ b' = true := by
      rcases hout with ⟨rfl, e⟩ | ⟨rfl, e, _⟩
      · exact ⟨bytes_inj e HS.out, rfl⟩
      · exact absurd HS.out (e _)
    have hbN := below_new (o := .cells #[.int .i64 m'.kd, .int .i64 m'.c, .int .i64 m'.e, .int .i64 m'.n, .int .i64 m'.sh, .int .i64 m'.nu, .int .i64 m'.st, .int .i64 m'.k, .string m'.ky, .string m'.vl, .string m'.lo, .string m'.hi, .int .i64 m'.mo, .bool m'.bk, .int .i64 m'.cd, .slice qa qn qc, .bool m'.ys] 31) (w := w4) (Below.refl _ _)
    have G4 := hid (MB9.new (kd := m'.kd) (c := m'.c) (e := m'.e) (n := m'.n) (sh := m'.sh) (nu := m'.nu) (st := m'.st) (k := m'.k) (ky := m'.ky) (vl := m'.vl) (lo := m'.lo) (hi := m'.hi) (mo := m'.mo) (bk := m'.bk) (cd := m'.cd) (ys := m'.ys) hO)
    have M4 := hid (M3.out.below (btR hb hbN))
    have B4 := hid (btR B3.out (btR hb hbN))
    have R4 := hid (R3.out.kept (btR hb hbN))
    have CS := hid (specMsgBytes_any (fun _ => True) m'.ps m'.kd m'.c m'.e m'.n m'.sh m'.nu m'.st m'.k m'.ky m'.vl m'.lo m'.hi m'.mo m'.bk m'.cd qa qn qc m'.ys _ G4.out.own.r)
    clear hp hout hO hb hbN M3 B3 R3
    go_wp2_with (first
      | (refine wpList_store_row rfl 31 _ _ rfl w4.heap.size _ rfl rfl 31 _ (heap_alloc_new w4 _) (by kernel_rfl) rfl (by kernel_rfl) ?_; rw [World.setRow_alloc_new])
      | (refine wpList_load_row rfl 31 _ rfl w4.heap.size rfl 31 _ (0, 0) _ G4.out.box Tryd.underlying31 rfl (by kernel_rfl) ?_))
    refine CS.out.mono ?_
    generalize w4.alloc (.cells #[.int .i64 m'.kd, .int .i64 m'.c, .int .i64 m'.e, .int .i64 m'.n, .int .i64 m'.sh, .int .i64 m'.nu, .int .i64 m'.st, .int .i64 m'.k, .string m'.ky, .string m'.vl, .string m'.lo, .string m'.hi, .int .i64 m'.mo, .bool m'.bk, .int .i64 m'.cd, .slice qa qn qc, .bool m'.ys] 31) = V4 at *
    generalize w4.heap.size = bG at *
    clear CS
    intro r w5 hp
    obtain ⟨hb5, hp⟩ := hp
    have G5 := hid (G4.out.below hb5)
    have M5 := hid (M4.out.below hb5)
    have B5 := hid (btR B4.out hb5)
    have R5 := hid (R4.out.kept hb5)
    clear G4 M4 B4 R4 hb5
    rcases hp with ⟨hnone, rfl⟩ | ⟨v, out2, hsome, rfl, hob⟩
    · have hno : m'.bytes = none := hnone
      rw [HS.out] at hno
      cases hno
    · have hs2 : m'.bytes = some out2 := hsome
      rw [HS.out] at hs2
      obtain rfl : out = out2 := Option.some.inj hs2
      clear hsome hs2
      obtain ⟨ya, yc, rfl, hry⟩ := hob.rd' HSM.out.1 HSM.out.2
      have q1 := run_str hry
      have q2 := run_str R5.out
      clear hob hry
      have hse : ((strOf out).toList == (strOf out).toList) = true := by simp
      have g0 := G5.out.box.cell (j := 0) rfl
      have g1 := G5.out.box.cell (j := 1) rfl
      have g2 := G5.out.box.cell (j := 2) rfl
      have g3 := G5.out.box.cell (j := 3) rfl
      have e0 := M5.out.box.cell (j := 0) rfl
      have e1 := M5.out.box.cell (j := 1) rfl
      have e2 := M5.out.box.cell (j := 2) rfl
      have e3 := M5.out.box.cell (j := 3) rfl
      have hqt := eql_tx m'.c m'.e m'.n m'.c m'.e m'.n
      rw [decide_eq_true rfl] at hqt
      have hgt := guard_tx .eql
      have hkk : (m'.kd == m'.kd) = true := by simp
      clear G5 M5
      go_wp2
      go_ret
      exact ⟨rfl, B5.out⟩
end Go.Proofs.YtbaggkfgnjenoacDoor
/-
  The messages that the laws draw: DrawMsgBytes; the law FnMsg.
-/
namespace Go.Proofs.YtbaggkfgnjenoacDoor
open Go.RowKit
set_option linter.unusedVariables false
set_option maxHeartbeats 8000000 in
set_option maxRecDepth 20000 in
theorem drawMsgBytes_any : DrawM := by
  intro a n c zs w h hl
  have B0 := hid (below_alloc w (.cells #[.int .i64 0, .int .i64 0, .int .i64 0, .int .i64 0, .int .i64 0, .int .i64 0, .int .i64 0, .int .i64 0, .string ⟨#[]⟩, .string ⟨#[]⟩, .string ⟨#[]⟩, .string ⟨#[]⟩, .int .i64 0, .bool false, .int .i64 0, .slice none 0 0, .bool false] 31))
  have K0 := hid (Bk.new w 31 [.int .i64 0, .int .i64 0, .int .i64 0, .int .i64 0, .int .i64 0, .int .i64 0, .int .i64 0, .int .i64 0, .string ⟨#[]⟩, .string ⟨#[]⟩, .string ⟨#[]⟩, .string ⟨#[]⟩, .int .i64 0, .bool false, .int .i64 0, .slice none 0 0, .bool false])
  have H0 := hid (h.kept B0.out)
  clear h
  go_enter Tryd.func4, Tryd.ntmps4
  go_wp2_with fail
  refine (new_any a n c zs _ H0.out hl).mono ?_
  generalize w.alloc (.cells #[.int .i64 0, .int .i64 0, .int .i64 0, .int .i64 0, .int .i64 0, .int .i64 0, .int .i64 0, .int .i64 0, .string ⟨#[]⟩, .string ⟨#[]⟩, .string ⟨#[]⟩, .string ⟨#[]⟩, .int .i64 0, .bool false, .int .i64 0, .slice none 0 0, .bool false] 31) = U at *
  have HG : Hid (w.heap.size < U.heap.size) := K0.out.lt
  generalize hgg : U.heap.size = g at *
  have HGG := hid hgg
  clear hgg
  rintro e w1 ⟨rfl, hb, hc⟩
  rw [← HGG.out] at hb
  have B1 := hid (thn2 B0.out hb)
  have K1 := hid (K0.out.below hb)
  have C1 := hid hc
  clear hb hc B0 K0 H0
  go_wp2_with fail
  refine (l09Any_any g _ C1.out).mono ?_
  rintro e w2 ⟨⟨m, pa, pn, pc, rfl, hO, hL⟩, hg1, hc1⟩
  have K2 := hid (K1.out.grownR hg1 (by have := HG.out; omega))
  have B2 : Hid (Below w.heap.size w w2) := B1.out.trans ((below_of_grown hg1 C1.out.lt).mono (by have := HG.out; omega))
  have O2 : Hid (oqW w2 (w.heap.size + 1) (.slice pa pn pc) m.ps) := hO.base (by have := K1.out.lt; omega)
  clear hg1 hc1 B1 K1 C1 hO hL
  have K3 := hid (K2.out.alloc (.cells #[.int .i64 m.kd, .int .i64 m.c, .int .i64 m.e, .int .i64 m.n, .int .i64 m.sh, .int .i64 m.nu, .int .i64 m.st, .int .i64 m.k, .string m.ky, .string m.vl, .string m.lo, .string m.hi, .int .i64 m.mo, .bool m.bk, .int .i64 m.cd, .slice pa pn pc, .bool m.ys] 31))
  have J3 := hid (Bk.new w2 31 [.int .i64 m.kd, .int .i64 m.c, .int .i64 m.e, .int .i64 m.n, .int .i64 m.sh, .int .i64 m.nu, .int .i64 m.st, .int .i64 m.k, .string m.ky, .string m.vl, .string m.lo, .string m.hi, .int .i64 m.mo, .bool m.bk, .int .i64 m.cd, .slice pa pn pc, .bool m.ys])
  have B3 := hid (thn2 B2.out (below_alloc w2 (.cells #[.int .i64 m.kd, .int .i64 m.c, .int .i64 m.e, .int .i64 m.n, .int .i64 m.sh, .int .i64 m.nu, .int .i64 m.st, .int .i64 m.k, .string m.ky, .string m.vl, .string m.lo, .string m.hi, .int .i64 m.mo, .bool m.bk, .int .i64 m.cd, .slice pa pn pc, .bool m.ys] 31)))
  have O3 := hid (O2.out.below (below_alloc w2 (.cells #[.int .i64 m.kd, .int .i64 m.c, .int .i64 m.e, .int .i64 m.n, .int .i64 m.sh, .int .i64 m.nu, .int .i64 m.st, .int .i64 m.k, .string m.ky, .string m.vl, .string m.lo, .string m.hi, .int .i64 m.mo, .bool m.bk, .int .i64 m.cd, .slice pa pn pc, .bool m.ys] 31)))
  have hlt : w.heap.size < w2.heap.size := K2.out.lt
  clear K2 B2 O2
  go_upto_region 3 with (refine wpList_store_row rfl 31 _ _ rfl w2.heap.size _ rfl rfl 31 _ (heap_alloc_new w2 _) (by kernel_rfl) rfl (by kernel_rfl) ?_; rw [World.setRow_alloc_new])
  generalize w2.alloc (.cells #[.int .i64 m.kd, .int .i64 m.c, .int .i64 m.e, .int .i64 m.n, .int .i64 m.sh, .int .i64 m.nu, .int .i64 m.st, .int .i64 m.k, .string m.ky, .string m.vl, .string m.lo, .string m.hi, .int .i64 m.mo, .bool m.bk, .int .i64 m.cd, .slice pa pn pc, .bool m.ys] 31) = V at *
  generalize w2.heap.size = b at *
  have JE := hid (K3.out.setRow [.int .i64 m.kd, .int .i64 m.c, .int .i64 m.e, .int .i64 m.n, .int .i64 m.sh, .int .i64 m.nu, .int .i64 m.st, .int .i64 m.k, .string m.ky, .string m.vl, .string m.lo, .string m.hi, .int .i64 m.mo, .bool m.bk, .int .i64 m.cd, .slice pa pn pc, .bool m.ys])
  have OE : Hid (oqW (V.setRow w.heap.size #[.int .i64 m.kd, .int .i64 m.c, .int .i64 m.e, .int .i64 m.n, .int .i64 m.sh, .int .i64 m.nu, .int .i64 m.st, .int .i64 m.k, .string m.ky, .string m.vl, .string m.lo, .string m.hi, .int .i64 m.mo, .bool m.bk, .int .i64 m.cd, .slice pa pn pc, .bool m.ys]) w.heap.size (.slice pa pn pc) m.ps) := (O3.out.to (only_setRow (R := fun y => y = w.heap.size) rfl _) (fun y hy e => by have := O3.out.lt hy; omega)).base (by omega)
  have BE : Hid (Below w.heap.size w (V.setRow w.heap.size #[.int .i64 m.kd, .int .i64 m.c, .int .i64 m.e, .int .i64 m.n, .int .i64 m.sh, .int .i64 m.nu, .int .i64 m.st, .int .i64 m.k, .string m.ky, .string m.vl, .string m.lo, .string m.hi, .int .i64 m.mo, .bool m.bk, .int .i64 m.cd, .slice pa pn pc, .bool m.ys])) := B3.out.trans ((only_setRow (R := fun y => y = w.heap.size) rfl _).below B3.out.size (fun y hy e => by omega))
  go_wp2_with (first
    | (refine wpList_load_row rfl 31 _ rfl b rfl 31 _ (0, 0) _ J3.out Tryd.underlying31 rfl (by kernel_rfl) ?_; go_frame)
    | (refine wpList_store_row rfl 31 _ _ rfl w.heap.size #[.int .i64 m.kd, .int .i64 m.c, .int .i64 m.e, .int .i64 m.n, .int .i64 m.sh, .int .i64 m.nu, .int .i64 m.st, .int .i64 m.k, .string m.ky, .string m.vl, .string m.lo, .string m.hi, .int .i64 m.mo, .bool m.bk, .int .i64 m.cd, .slice pa pn pc, .bool m.ys] rfl rfl 31 _ K3.out (by kernel_rfl) rfl (by kernel_rfl) ?_))
  generalize V.setRow w.heap.size #[.int .i64 m.kd, .int .i64 m.c, .int .i64 m.e, .int .i64 m.n, .int .i64 m.sh, .int .i64 m.nu, .int .i64 m.st, .int .i64 m.k, .string m.ky, .string m.vl, .string m.lo, .string m.hi, .int .i64 m.mo, .bool m.bk, .int .i64 m.cd, .slice pa pn pc, .bool m.ys] = VE at *
  try simp only [Exit.inBlock, Exit.then]
  refine bodyPost_ret (v := .agg #[.int .i64 m.kd, .int .i64 m.c, .int .i64 m.e, .int .i64 m.n, .int .i64 m.sh, .int .i64 m.nu, .int .i64 m.st, .int .i64 m.k, .string m.ky, .string m.vl, .string m.lo, .string m.hi, .int .i64 m.mo, .bool m.bk, .int .i64 m.cd, .slice pa pn pc, .bool m.ys]) ?_ rfl ?_
  · exact results_cell_row rfl _ _ w.heap.size 31 _ (0, 0) _ rfl JE.out Tryd.underlying31 rfl (by kernel_rfl)
  · exact ⟨m, _, _, _, rfl, OE.out, BE.out⟩
theorem lawFMsg_door (a : Option Addr) (n c : Nat) (z0 : List Int) (w : World) (w0 : IsRow .u8 w a n c z0) (_e1 : Err w 1) (_e2 : Err w 0) (_l1 : 1 < w.heap.size) (_l2 : 0 < w.heap.size) :
    Calls Tryd.prog 3 #[.slice a n c] w fun e w' => e = .returned (.bool true) ∧ Below w.heap.size w w' := by
  by_cases hbig : 1048576 < n
  · have hb' : (1048576 : Int) < (n : Int) := by omega
    clear w0 _e1 _e2 _l1 _l2
    go_enter Tryd.func3, Tryd.ntmps3
    go_wp2
    go_ret
    exact ⟨rfl, Below.refl _ _⟩
  · exact lawFMsg_road drawMsgBytes_any a n c _ w (rd_of_row w0 (by omega)) (by omega)
end Go.Proofs.YtbaggkfgnjenoacDoor
