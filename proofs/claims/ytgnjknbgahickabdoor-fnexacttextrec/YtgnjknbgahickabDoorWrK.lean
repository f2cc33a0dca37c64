/-
  The program's writer where there is room: what it leaves alone besides what lies below it.
-/
import Derived.Test.YtgnjknbgahickabDoorMtI
import Derived.Test.YtgnjknbgahickabDoorPutText
namespace Go.Proofs.YtgnjknbgahickabDoor
open Go.RowKit
/-- The block b is none of the writer's. -/
def Off (w : World) (g b : Nat) : Prop := b < w.heap.size ∧ b ≠ g ∧ ∀ v, w.cell? ⟨g, 0, none⟩ = some v → v.ownBlock ≠ some b
/-- What isn't the writer's is as it was, and isn't the writer's still. -/
def Kp (g : Nat) (w w' : World) : Prop := ∀ b, Off w g b → w'.heap[b]? = w.heap[b]? ∧ Off w' g b
theorem Kp.refl (g : Nat) (w : World) : Kp g w w := fun _ h => ⟨rfl, h⟩
theorem Kp.trans {g : Nat} {w w1 w2 : World} (h : Kp g w w1) (k : Kp g w1 w2) : Kp g w w2 := fun b hb => ⟨(k b (h b hb).2).1.trans (h b hb).1, (k b (h b hb).2).2⟩
theorem Kp.alloc {g : Nat} {w : World} (hg : g < w.heap.size) (o : Obj) : Kp g w (w.alloc o) := by
  intro b hb
  refine ⟨Below.heap_alloc _ _ _ hb.1, Nat.lt_of_lt_of_le hb.1 (by simp), hb.2.1, fun v hv => hb.2.2 v ?_⟩
  rwa [World.cell?_alloc_past (hn := hg)] at hv
theorem Kp.drewN (g : Nat) (w : World) (q : Nat) : Kp g w (w.drewN q) := fun _ h => ⟨rfl, h⟩
theorem Kp.drew (g : Nat) (w : World) : Kp g w w.drew := fun _ h => ⟨rfl, h⟩
theorem Kp.bk {g : Nat} {w w' : World} (h : Kp g w w') {b : Nat} {T : TypeId} {xs : List Value} (ho : Off w g b) (hk : Bk w b T xs) : Bk w' b T xs := (h b ho).1.trans hk
theorem only_under {G : Nat} {w w' : World} (h : Below G w w') : Only (fun b => G ≤ b) w w' := ⟨h.os, h.tape, h.output, h.size, fun b _ hn => h.block b (by omega)⟩
theorem Wr.off {w : World} {g most : Nat} {st : Option (List Int)} (h : Wr w g most st) (o : Obj) : Off (w.alloc o) g w.heap.size := by
  have hlt := h.lt
  obtain ⟨v, ev, zs, c0, c1, c2, f0, f2, ho, hr⟩ := h
  refine ⟨by simp, by omega, fun u hu e => ?_⟩
  rw [World.cell?_alloc_past (hn := hlt), c0] at hu
  cases hu
  have := (World.ownsRow.lt ho _ e).2
  omega
set_option maxHeartbeats 800000 in
theorem addK_any (g most : Nat) (zs : List Int) (a : Option Addr) (n c : Nat) (ys : List Int) (w : World) (h : Wr w g most (some zs)) (hs : Rd w a n c ys) (hn : n ≤ 1048576) (hcz : a = none → c = 0) (hfit : zs.length + ys.length ≤ most) (hmo : most ≤ 1048576) :
    Calls Tryd.prog 69 #[.pointer (some ⟨g, 0, none⟩), .slice a n c] w fun e w' => e = .returned (.tuple #[]) ∧ Below g w w' ∧ Wr w' g most (some (zs ++ ys)) ∧ Kp g w w' := by
  have HS := hid hs
  have HN : Hid (n = ys.length) := hs.1
  have hyb := at_byte hs.2.2.2.2.1
  have HY := hid hyb
  have hlt := h.lt
  have HCZ := hid hcz
  obtain ⟨v, ev, zs', c0, c1, c2, f0, f2, ho, hl, hm, hb, hst⟩ := h
  rcases hst with ⟨rfl, e⟩ | ⟨_, e⟩
  · cases e
    obtain ⟨va, vc, hv⟩ := ho.shape
    have HO := hid ho
    have HB := hid hb
    have HV := hid hv
    rw [hv] at c0
    have HC0 := hid c0
    generalize hL : zs.length = L at hv hl c0
    have HL := hid hL
    clear ho hb hs hyb hL hv hcz
    have hbig : ¬ (most : Int) - (L : Int) < (n : Int) := by have := HL.out; have := HN.out; omega
    have HO' : Hid (Ob w (g + 1) (.slice va L vc) zs) := by show Ob w (g + 1) (.slice va L vc) zs; rw [← HL.out, ← HV.out]; exact HO.out
    have HFT : Hid (zs.length + ys.length ≤ most) := hfit
    clear hfit
    go_enter Tryd.func69, Tryd.ntmps69
    go_wp2
    go_quiet (fail)
    go_wp2_with (at_builtin; refine wpList_append_by rfl _ _ rfl (g + 1) _ zs rfl (HO'.out.drewN nq) a n c ys rfl (HS.out.drewN nq) ?b ?m ?base HCZ.out ?_)
    case b => rw [HL.out]; omega
    case m => omega
    case base => simp; omega
    intro a2 L2 k2 w2 hown2 hg2 hwh
    have hb2 : Below (g + 1) w w2 := Ob.below (HO'.out.drewN nq) (Below.drewN' (Below.refl _ _) nq) (by simp; omega) hg2
    have HO2 := hid hown2
    have HG2 := hid hg2
    have HWH := hid hwh
    have d0 := (hb2.cell (p := ⟨g, 0, none⟩) (by simp)).trans c0
    have d1 := (hb2.cell (p := ⟨g, 1, none⟩) (by simp)).trans c1
    have d2 := (hb2.cell (p := ⟨g, 2, none⟩) (by simp)).trans c2
    have e0 := (hb2.frozen (p := ⟨g, 0, none⟩) (by simp)).trans f0
    have e2 := (hb2.frozen (p := ⟨g, 2, none⟩) (by simp)).trans f2
    clear hown2 hg2 hwh
    go_wp2
    go_end0
    refine ⟨rfl, Below.setCell (p := ⟨g, 0, none⟩) (hb2.mono (Nat.le_succ g)) (Nat.le_refl g) _, ?_, ?_⟩
    · refine ⟨.slice a2 L2 k2, .nilIface, zs ++ ys, World.cell?_setCell_same _ _ _ d0, ?_, ?_, by simpa using e0, by simpa using e2, ?_, ?_, hm, byte_append HB.out HY.out, .inl ⟨rfl, rfl⟩⟩
      · rw [World.cell?_setCell_other (h := by simp)]; exact d1
      · rw [World.cell?_setCell_other (h := by simp)]; exact d2
      · exact ownsRow_setCell_below HO2.out (by simp) _
      · rw [List.length_append]; exact HFT.out
    · intro b hoff
      have hrow : (Value.slice va L vc).ownBlock ≠ some b := hoff.2.2 _ c0
      have hbk : w2.heap[b]? = w.heap[b]? := HG2.out.block b hoff.1 (fun e => hrow e.symm)
      refine ⟨?_, ?_, hoff.2.1, ?_⟩
      · rw [← hbk]
        exact Below.heap_setCell _ _ _ _ (fun e => hoff.2.1 e)
      · have := HG2.out.size
        have h1 := hoff.1
        show b < (w2.setCell _ _).heap.size
        simp [World.setCell]
        exact Nat.lt_of_lt_of_le h1 this
      · intro u hu e
        rw [World.cell?_setCell_same _ _ _ d0] at hu
        cases hu
        rcases HWH.out with h1 | h1
        · exact hrow (h1 ▸ e)
        · rw [h1] at e
          have h2 := hoff.1
          have h3 : w.heap.size = b := Option.some.inj e
          omega
  · cases e
set_option maxHeartbeats 400000 in
theorem addByteK_any (g most : Nat) (zs : List Int) (z : Int) (w : World) (h : Wr w g most (some zs)) (h0 : 0 ≤ z) (h1 : z ≤ 255) (hfit : zs.length + 1 ≤ most) (hmo : most ≤ 1048576) :
    Calls Tryd.prog 56 #[.pointer (some ⟨g, 0, none⟩), .int .u8 z] w fun e w' => e = .returned (.tuple #[]) ∧ Below g w w' ∧ Wr w' g most (some (zs ++ [z])) ∧ Kp g w w' := by
  have hlt := h.lt
  have HW := hid h
  clear h
  have hb1 : Below g w (w.alloc (.cells #[.int .u8 z] 5)) := (Below.refl _ _).alloc (Nat.le_of_lt hlt) _
  have HB := hid hb1
  have HK := hid (Kp.alloc hlt (.cells #[.int .u8 z] 5))
  clear hb1
  go_enter Tryd.func56, Tryd.ntmps56
  go_wp2_with (go_at_call 69; refine (addK_any g most zs _ 1 1 [z] _ (HW.out.alloc _) (rd_one w z h0 h1) (by omega) (fun e => by cases e) (by simpa using hfit) hmo).mono ?_; rintro e w1 ⟨rfl, hb, hw, hk⟩)
  go_end0
  exact ⟨rfl, HB.out.trans hb, hw, HK.out.trans hk⟩
set_option maxHeartbeats 800000 in
theorem numberK_any (g most : Nat) (zs : List Int) (m : Int) (w : World) (h : Wr w g most (some zs)) (h0 : 0 ≤ m) (h1 : m ≤ 1099511627775) (hfit : zs.length + (enc m).length ≤ most) (hmo : most ≤ 1048576) :
    Calls Tryd.prog 70 #[.pointer (some ⟨g, 0, none⟩), .int .i64 m] w fun e w' => e = .returned (.tuple #[]) ∧ Below g w w' ∧ Wr w' g most (some (zs ++ enc m)) ∧ Kp g w w' := by
  have HW := hid h
  have HFT := hid hfit
  clear h hfit
  go_enter Tryd.func70, Tryd.ntmps70
  go_wp2_with (go_at_call 73; refine (isNumber_any m _ true (by simp [h0, h1])).mono ?_; rintro e w' ⟨rfl, rfl⟩)
  go_loopw [1] (fun i wr => ∃ (f : Nat) (q : Int) (ds : List Int), i = .int .i64 q ∧ 0 ≤ q ∧ q ≤ 1099511627775 ∧ q < bnd f ∧ ds ++ encF f q = enc m ∧ Wr wr g most (some (zs ++ ds)) ∧ Below g w wr ∧ Kp g w wr) (fun i _ => (intOf i).toNat)
  case atStart => exact ⟨6, m, [], rfl, h0, h1, by simp [bnd]; omega, rfl, by rw [List.append_nil]; exact HW.out, Below.refl _ _, Kp.refl _ _⟩
  case round =>
    obtain ⟨f, q, ds, rfl, hq0, hq1, hqb, hds, hwr, hbel, hkp⟩ := hrel
    have HD := hid hds
    have HQ := hid hqb
    have HR := hid hwr
    have HKP := hid hkp
    have HLN : Hid (zs.length + (ds.length + 1) ≤ most) := by
      have h2 := HFT.out
      rw [← hds, List.length_append] at h2
      have h3 := encF_len f q
      show _ ≤ _
      omega
    clear hds hqb hwr hkp
    by_cases hge : 128 ≤ q
    · obtain ⟨f', hf'⟩ : ∃ f', f = f' + 1 := by
        cases f with
        | zero => have := HQ.out; simp [bnd] at this; omega
        | succ f => exact ⟨f, rfl⟩
      subst hf'
      have HD2 : Hid (ds ++ [q % 128 + 128] ++ encF f' (q / 128) = enc m) := by
        show ds ++ [q % 128 + 128] ++ encF f' (q / 128) = enc m
        rw [← HD.out, encF_big f' q hge, Int.add_comm]; simp
      have HQ2 : Hid (q / 128 < bnd f') := bnd_down f' q HQ.out
      go_wp2_with (go_at_call 56; refine (addByteK_any g most (zs ++ ds) (q % 128 + 128) _ HR.out (by omega) (by omega) (by rw [List.length_append]; have := HLN.out; omega) hmo).mono ?_; rintro e w2 ⟨rfl, hb2, hw2, hk2⟩)
      go_roundw
      case rel => exact ⟨f', q / 128, ds ++ [q % 128 + 128], rfl, by omega, by omega, HQ2.out, HD2.out, by rw [← List.append_assoc]; exact hw2, hbel.trans hb2, HKP.out.trans hk2⟩
      case measure => simp [intOf]; omega
    · have HE3 : Hid (ds ++ [q] = enc m) := by
        show ds ++ [q] = enc m
        rw [← HD.out, encF_small f q (by omega)]
      go_wp2_with (go_at_call 56; refine (addByteK_any g most (zs ++ ds) q _ HR.out (by omega) (by omega) (by rw [List.length_append]; have := HLN.out; omega) hmo).mono ?_; rintro e w2 ⟨rfl, hb2, hw2, hk2⟩)
      go_end0
      exact ⟨rfl, hbel.trans hb2, by rw [← HE3.out, ← List.append_assoc]; exact hw2, HKP.out.trans hk2⟩
set_option maxHeartbeats 400000 in
theorem textK_any (g most : Nat) (zs : List Int) (s : ByteArray) (w : World) (h : Wr w g most (some zs)) (hs : s.size ≤ 1048576) (hfit : zs.length + ((enc s.size).length + s.size) ≤ most) (hmo : most ≤ 1048576) :
    Calls Tryd.prog 57 #[.pointer (some ⟨g, 0, none⟩), .string s] w fun e w' => e = .returned (.tuple #[]) ∧ Below g w w' ∧ Wr w' g most (some (zs ++ (enc s.size ++ bytesOf s))) ∧ Kp g w w' := by
  have hlt := h.lt
  have HW := hid h
  have HFT := hid hfit
  clear h hfit
  have hcv := fun w => run_bytes_of_string (P := Tryd.prog) w 9 57 5 s Tryd.underlying9 Tryd.underlying57 Tryd.underlying5
  go_enter Tryd.func57, Tryd.ntmps57
  go_wp2_with (go_at_call 70; refine (numberK_any g most zs s.size w HW.out (by omega) (by omega) (by have := HFT.out; omega) hmo).mono ?_; rintro e w1 ⟨rfl, hb1, hw1, hk1⟩)
  have HW1 := hid hw1
  have HB1 := hid hb1
  have HK1 := hid hk1
  clear hw1 hb1 hk1
  have hlt1 : g ≤ w1.heap.size := Nat.le_of_lt HW1.out.lt
  have hlt2 := HW1.out.lt
  refine (addK_any g most (zs ++ enc s.size) _ s.size _ (bytesOf s) _ ?gw ?gs (by omega) (fun e => by cases e) (by rw [List.length_append, bytesOf_len]; have := HFT.out; omega) hmo).mono ?_
  case gw => exact HW1.out.alloc _
  case gs => exact rd_conv _ s _ _ (by omega) (grownCap_ge _ _ _ _) (by have := grownCap_le_maxLen w1 s.size 0 5 (by unfold maxLen; omega); unfold maxLen at this; omega)
  rintro e w2 ⟨rfl, hb2, hw2, hk2⟩
  have HB2 := hid hb2
  have HW2 := hid hw2
  have HK2 := hid hk2
  clear hb2 hw2 hk2
  go_wp2
  go_end0
  refine ⟨rfl, HB1.out.trans (((Below.refl g w1).alloc hlt1 _).drew.trans HB2.out), by rw [← List.append_assoc]; exact HW2.out, HK1.out.trans ?_⟩
  exact Kp.trans (Kp.trans (Kp.alloc hlt2 _) (Kp.drew _ _)) HK2.out
end Go.Proofs.YtgnjknbgahickabDoor

