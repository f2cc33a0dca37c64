/-
  The law FnMeta answers true at every code.
-/
import Derived.Test.YtcclhieaiaalkaaDoorMtJ
import Derived.Test.YtcclhieaiaalkaaDoorMtT
import Derived.Test.YtcclhieaiaalkaaDoorTeI
import Derived.Test.YtcclhieaiaalkaaDoorDrMM
namespace Go.Proofs.YtcclhieaiaalkaaDoor
open Go.RowKit
theorem mtOk_mk {g r : Int} (h0 : 1 ≤ g) (h1 : g ≤ 1099511627775) (r0 : 2 ≤ r) (r1 : r < 400) : mtOk g r = true := by
  rw [mtOk, decide_eq_true ⟨h0, h1⟩, decide_eq_true (show 2 ≤ r ∧ r < 400 from ⟨r0, r1⟩)]
  simp
theorem mtBytes_ok {g r : Int} (h : mtOk g r = true) : mtBytes g r = some (mtFull g r) := by rw [mtBytes, if_pos h]
theorem tearV_full (g a g' b n : Int) : tearV (mtFull g a) (mtFull g' b) n = some (trB (mtFull g a) (mtFull g' b) n) := by
  have h1 : ∀ g r, shOk (mtFull g r) = true := fun g r => (shOk_iff _).2 (.inr (mtFull_len g r))
  have h2 : ∀ g r, sheet (mtFull g r) = mtFull g r := fun g r => by rw [sheet, if_neg (by rw [mtFull_len]; omega)]
  rw [tearV, if_pos ⟨h1 g a, h1 g' b⟩, h2, h2]
set_option maxHeartbeats 8000000 in
set_option maxRecDepth 20000 in
theorem lawFMeta_road (a : Option Addr) (n c : Nat) (zs : List Int) (w : World) (h : Rd w a n c zs) (hn : n ≤ 1048576) (he : Err w 0) (he2 : Err w 1) :
    Calls Tryd.prog 4 #[.slice a n c] w fun e w' => e = .returned (.bool true) ∧ Below w.heap.size w w' := by
  have HR := hid h
  have HE := hid he
  have HE2 := hid he2
  clear h he he2
  have hns : ¬ (1048576 : Int) < (n : Int) := by omega
  go_enter Tryd.func4, Tryd.ntmps4
  go_wp2_with fail
  refine (makeMetas_any a n c zs _ HR.out hn).mono ?_
  rintro e w1 ⟨⟨g, p, q, t, rfl, ⟨g0, g1⟩, ⟨p0, p1⟩, ⟨q0, q1⟩, t0, t1⟩, hb1⟩
  have B1 := hid hb1
  have HP := hid (mtOk_mk (g := g) (r := p) (by omega) (by omega) (by omega) (by omega))
  have HQ := hid (mtOk_mk (g := g + 2) (r := q) (by omega) (by omega) (by omega) (by omega))
  clear hb1 HR
  go_wp2_with fail
  refine (implMetaBytes_any g p w1 (HE.out.below B1.out HE.out.lt) (HE2.out.below B1.out HE2.out.lt)).mono ?_
  intro e w2 hput
  obtain ⟨v2, rfl, hO2, hb2⟩ := PutM.got hput (mtBytes_ok HP.out)
  obtain ⟨a2, c2, rfl, hR2, -⟩ := hO2.rd (byte_at (mtFull_byte (by omega) (by omega))) (by rw [mtFull_len]; omega)
  rw [mtFull_len] at hR2 ⊢
  have R2 := hid hR2
  have B2 := hid (btw B1.out hb2)
  clear hput hO2 hR2 hb2 B1
  go_wp2_with fail
  refine (implMetaBytes_any (g + 2) q w2 (HE.out.below B2.out HE.out.lt) (HE2.out.below B2.out HE2.out.lt)).mono ?_
  intro e w3 hput
  obtain ⟨v3, rfl, hO3, hb3⟩ := PutM.got hput (mtBytes_ok HQ.out)
  obtain ⟨a3, c3, rfl, hR3, -⟩ := hO3.rd (byte_at (mtFull_byte (by omega) (by omega))) (by rw [mtFull_len]; omega)
  rw [mtFull_len] at hR3 ⊢
  have R3 := hid hR3
  have X3 := hid (R2.out.kept hb3)
  have B3 := hid (btw B2.out hb3)
  clear hput hO3 hR3 hb3 B2 R2
  go_wp2_with fail
  refine (implTear_any a2 512 c2 _ a3 512 c3 _ t w3 X3.out R3.out (HE.out.below B3.out HE.out.lt) (HE2.out.below B3.out HE2.out.lt)).mono ?_
  intro e w4 hte
  rw [tearV_full] at hte
  obtain ⟨hb4, ⟨hno, -⟩ | ⟨v4, out, hout, rfl, hO4⟩⟩ := hte
  · cases hno
  obtain rfl : trB (mtFull g p) (mtFull (g + 2) q) t = out := Option.some.inj hout
  have HBY : Hid (∀ z ∈ trB (mtFull g p) (mtFull (g + 2) q) t, 0 ≤ z ∧ z ≤ 255) := by
    intro z hz
    rw [trB] at hz
    rcases List.mem_append.1 hz with h | h
    · exact mtFull_byte (g := g + 2) (r := q) (by omega) (by omega) z (List.mem_of_mem_take h)
    · exact mtFull_byte (g := g) (r := p) (by omega) (by omega) z (List.mem_of_mem_drop h)
  have HLN : Hid ((trB (mtFull g p) (mtFull (g + 2) q) t).length = 512) := by
    show _ = _
    rw [trB, List.length_append, List.length_take, List.length_drop, mtFull_len, mtFull_len]
    omega
  obtain ⟨a4, c4, rfl, hR4, -⟩ := hO4.rd (byte_at HBY.out) (by rw [HLN.out]; omega)
  rw [HLN.out] at hR4 ⊢
  have R4 := hid hR4
  have B4 := hid (btw B3.out hb4)
  have HALL : Hid (512 ≤ t → mrd (trB (mtFull g p) (mtFull (g + 2) q) t) = some (g + 2, q)) := by
    intro ht
    rw [tr_all (mtFull_len _ _) (mtFull_len _ _) ht]
    exact (mrd_iff _ _ _).2 (mtBytes_ok HQ.out)
  have HTORN : Hid (t < 512 → mrd (trB (mtFull g p) (mtFull (g + 2) q) t) = none ∨ mrd (trB (mtFull g p) (mtFull (g + 2) q) t) = some (g, p)) := fun ht => torn HP.out HQ.out ht
  clear hR4 hO4 hb4 hout B3 R3 X3 HP HQ HBY HLN
  generalize trB (mtFull g p) (mtFull (g + 2) q) t = out at *
  go_wp2_with fail
  refine (implMetaRead_any a4 512 c4 out w4 R4.out (HE.out.below B4.out HE.out.lt) (HE2.out.below B4.out HE2.out.lt)).mono ?_
  intro e w5 hm
  obtain ⟨hb5, hcase⟩ := hm
  have B5 := hid (btw B4.out hb5)
  clear hb5 B4 R4
  have BN : Hid (∀ o : Obj, Below w.heap.size w (w5.alloc o)) := fun o => btw B5.out (below_new (Below.refl _ _))
  by_cases ht : 512 ≤ t
  · have hall := HALL.out ht
    rw [hall] at hcase
    obtain ⟨hno, -⟩ | ⟨g', r', hs, rfl⟩ := hcase
    · cases hno
    · cases hs
      clear hall HALL HTORN
      have e1 : ((g + 2) == (g + 2)) = true := by simp
      have e2 : (q == q) = true := by simp
      go_wp2
      go_ret
      exact ⟨rfl, BN.out _⟩
  · have ht' : ¬ (512 : Int) ≤ t := ht
    rcases HTORN.out (by omega) with hno | hso
    · rw [hno] at hcase
      obtain ⟨-, rfl⟩ | ⟨g', r', hs, -⟩ := hcase
      · clear HALL HTORN hno
        go_wp2
        go_ret
        exact ⟨rfl, BN.out _⟩
      · cases hs
    · rw [hso] at hcase
      obtain ⟨hn', -⟩ | ⟨g', r', hs, rfl⟩ := hcase
      · cases hn'
      · cases hs
        have e1 : (g == g) = true := by simp
        have e2 : (p == p) = true := by simp
        clear HALL HTORN hso
        go_wp2
        go_ret
        exact ⟨rfl, BN.out _⟩
theorem lawFMeta_walk (a : Option Addr) (n c : Nat) (z0 : List Int) (w : World) (w0 : IsRow .u8 w a n c z0) (he : Err w 0) (he2 : Err w 1) (_l1 : 0 < w.heap.size) (_l2 : 1 < w.heap.size) :
    Calls Tryd.prog 4 #[.slice a n c] w fun e w' => e = .returned (.bool true) ∧ Below w.heap.size w w' := by
  by_cases hbig : 1048576 < n
  · have hb' : (1048576 : Int) < (n : Int) := by omega
    clear w0 he he2 _l1 _l2
    go_enter Tryd.func4, Tryd.ntmps4
    go_wp2
    go_ret
    exact ⟨rfl, Below.refl _ _⟩
  · exact lawFMeta_road a n c _ w (rd_of_row w0 (by omega)) (by omega) he he2
end Go.Proofs.YtcclhieaiaalkaaDoor

