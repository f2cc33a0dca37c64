/-
  The program's writer: what its methods fail and add do to it, for every state of the writer.
-/
import Derived.Test.YtbaggkfgnjenoacDoorMg1
import Derived.Laws.IdiomStrings
import Derived.Maps.AppendAt
import Derived.Deep.RegionLaw
import Derived.Deep.DeepCutAuto
import Derived.LaidLaws
import Derived.Stop.LaidErr
namespace Go.Proofs.YtbaggkfgnjenoacDoor
open Go.RowKit

/-- Block g is a writer that gathers at most 'most' bytes: it holds the bytes zs (st = some zs), or an error (st = none). -/
def Wr (w : World) (g most : Nat) (st : Option (List Int)) : Prop :=
  ∃ v ev zs, w.cell? ⟨g, 0, none⟩ = some v ∧ w.cell? ⟨g, 1, none⟩ = some (.int .i64 most) ∧ w.cell? ⟨g, 2, none⟩ = some ev ∧
    w.frozen? ⟨g, 0, none⟩ = false ∧ w.frozen? ⟨g, 2, none⟩ = false ∧ Ob w (g + 1) v zs ∧ zs.length ≤ most ∧ most ≤ 1099511627776 ∧ (∀ z ∈ zs, 0 ≤ z ∧ z ≤ 255) ∧
    ((ev = .nilIface ∧ st = some zs) ∨ ((∃ t x, ev = .iface t x) ∧ st = none))

/-- The variable at block v holds an error. -/
def Err (w : World) (v : Nat) : Prop := ∃ t x, w.cell? ⟨v, 0, none⟩ = some (.iface t x)
theorem Err.below {w w' : World} {v g : Nat} (h : Err w v) (hb : Below g w w') (hv : v < g) : Err w' v := by
  obtain ⟨t, x, hc⟩ := h
  exact ⟨t, x, by rw [hb.cell (p := ⟨v, 0, none⟩) hv]; exact hc⟩

def addSt (most : Nat) : Option (List Int) → List Int → Option (List Int)
  | none, _ => none
  | some zs, ys => if zs.length + ys.length ≤ most then some (zs ++ ys) else none

theorem Ob.drewN {w : World} {B : Nat} {v : Value} {zs : List Int} (h : Ob w B v zs) (q : Nat) : Ob (w.drewN q) B v zs := h
theorem Rd.drewN {w : World} {a : Option Addr} {n c : Nat} {zs : List Int} (h : Rd w a n c zs) (q : Nat) : Rd (w.drewN q) a n c zs := h

set_option maxHeartbeats 400000 in
theorem fail_set (g : Nat) (t : TypeId) (x : Value) (w : World) (h : w.cell? ⟨g, 2, none⟩ = some .nilIface) (hf : w.frozen? ⟨g, 2, none⟩ = false) :
    Calls Tryd.prog 41 #[.pointer (some ⟨g, 0, none⟩), .iface t x] w fun e w' => e = .returned (.tuple #[]) ∧ w' = w.setCell ⟨g, 2, none⟩ (.iface t x) := by
  go_enter Tryd.func41, Tryd.ntmps41
  go_wp2
  go_end0
  exact ⟨rfl, rfl⟩
set_option maxHeartbeats 400000 in
theorem fail_keep (g : Nat) (t : TypeId) (x : Value) (w : World) (y : TypeId) (z : Value) (h : w.cell? ⟨g, 2, none⟩ = some (.iface y z)) :
    Calls Tryd.prog 41 #[.pointer (some ⟨g, 0, none⟩), .iface t x] w fun e w' => e = .returned (.tuple #[]) ∧ w = w' := by
  go_enter Tryd.func41, Tryd.ntmps41
  go_wp2
  go_end0
  exact ⟨rfl, rfl⟩
/-- What is kept of a writer where its error alone is set. -/
theorem wr_failed {w : World} {g most : Nat} {zs : List Int} {v : Value} {t : TypeId} {x : Value} (c0 : w.cell? ⟨g, 0, none⟩ = some v) (c1 : w.cell? ⟨g, 1, none⟩ = some (.int .i64 most)) (c2 : w.cell? ⟨g, 2, none⟩ = some .nilIface)
    (f0 : w.frozen? ⟨g, 0, none⟩ = false) (f2 : w.frozen? ⟨g, 2, none⟩ = false) (ho : Ob w (g + 1) v zs) (hl : zs.length ≤ most) (hm : most ≤ 1099511627776) (hb : ∀ z ∈ zs, 0 ≤ z ∧ z ≤ 255) :
    Wr (w.setCell ⟨g, 2, none⟩ (.iface t x)) g most none := by
  refine ⟨v, .iface t x, zs, ?_, ?_, ?_, ?_, ?_, ownsRow_setCell_below ho (by simp) _, hl, hm, hb, .inr ⟨⟨t, x, rfl⟩, rfl⟩⟩
  · rw [World.cell?_setCell_other (h := by simp)]; exact c0
  · rw [World.cell?_setCell_other (h := by simp)]; exact c1
  · exact World.cell?_setCell_same _ _ _ c2
  · simp [f0]
  · simp [f2]

theorem Wr.drewN {w : World} {g most : Nat} {st : Option (List Int)} (h : Wr w g most st) (q : Nat) : Wr (w.drewN q) g most st := h
theorem Wr.lt {w : World} {g most : Nat} {st : Option (List Int)} (h : Wr w g most st) : g < w.heap.size := by
  obtain ⟨v, ev, zs, c0, _⟩ := h
  exact block_lt c0
/-- A writer keeps in a world that has kept its block and its row. -/
theorem Wr.alloc {w : World} {g most : Nat} {st : Option (List Int)} (h : Wr w g most st) (o : Obj) : Wr (w.alloc o) g most st := by
  have hlt := h.lt
  obtain ⟨v, ev, zs, c0, c1, c2, f0, f2, ho, hr⟩ := h
  exact ⟨v, ev, zs, by rw [World.cell?_alloc_past (hn := hlt)]; exact c0, by rw [World.cell?_alloc_past (hn := hlt)]; exact c1, by rw [World.cell?_alloc_past (hn := hlt)]; exact c2,
    by rw [World.frozen?_alloc_past (hn := hlt)]; exact f0, by rw [World.frozen?_alloc_past (hn := hlt)]; exact f2, ho.alloc o, hr⟩

set_option maxHeartbeats 800000 in
theorem add_any (g most : Nat) (st : Option (List Int)) (a : Option Addr) (n c : Nat) (ys : List Int) (w : World) (h : Wr w g most st) (he : Err w 1) (hs : Rd w a n c ys) (hn : n ≤ 1099511627776) :
    Calls Tryd.prog 38 #[.pointer (some ⟨g, 0, none⟩), .slice a n c] w fun e w' => e = .returned (.tuple #[]) ∧ Below g w w' ∧ Wr w' g most (addSt most st ys) := by
  have HW := hid h
  have HS := hid hs
  have HN : Hid (n = ys.length) := hs.1
  have hyb := at_byte hs.2.2.2.2.1
  have HY := hid hyb
  have hlt := h.lt
  obtain ⟨v, ev, zs, c0, c1, c2, f0, f2, ho, hl, hm, hb, hst⟩ := h
  obtain ⟨t, x, hx⟩ := he
  obtain ⟨va, vc, hv⟩ := ho.shape
  have HO := hid ho
  have HB := hid hb
  have HV := hid hv
  rw [hv] at c0
  generalize hL : zs.length = L at hv hl c0
  have HL := hid hL
  clear ho hb hs hyb hL hv
  by_cases hbig : (most : Int) - (L : Int) < (n : Int)
  · rcases hst with ⟨rfl, rfl⟩ | ⟨⟨y, z, rfl⟩, rfl⟩
    · have HA : Hid (addSt most (some zs) ys = none) := by
        show addSt most (some zs) ys = none
        unfold addSt
        exact if_neg (by rw [HL.out, ← HN.out]; omega)
      go_enter Tryd.func38, Tryd.ntmps38
      go_wp2
      go_quiet (fail)
      go_wp2_with (go_at_call 41; refine (fail_set g t x _ (by simpa using c2) (by simpa using f2)).mono ?_)
      rintro e w1 ⟨rfl, hw1⟩
      have HW1 : Hid (Wr w1 g most none) := by
        show Wr w1 g most none
        rw [hw1]
        exact wr_failed (w := w.drewN nq) (by simpa [HV.out, HL.out] using c0) (by simpa using c1) (by simpa using c2) (by simpa using f0) (by simpa using f2) HO.out (by rw [HL.out]; exact hl) hm HB.out
      have hb1 : Below g w w1 := by rw [hw1]; exact Below.setCell (p := ⟨g, 2, none⟩) (Below.drewN' (Below.refl g w) nq) (Nat.le_refl g) _
      have d2 : w1.cell? ⟨g, 2, none⟩ = some (.iface t x) := by rw [hw1]; exact World.cell?_setCell_same _ _ _ (by simpa using c2)
      clear hw1
      go_wp2
      go_end0
      exact ⟨rfl, hb1, by rw [HA.out]; exact HW1.out⟩
    · go_enter Tryd.func38, Tryd.ntmps38
      go_wp2
      go_quiet (fail)
      go_wp2_with (go_at_call 41; refine (fail_keep g t x _ y z (by simpa using c2)).mono ?_)
      rintro e w1 ⟨rfl, rfl⟩
      go_wp2
      go_end0
      exact ⟨rfl, Below.drewN' (Below.refl _ _) nq, HW.out.drewN nq⟩
  · rcases hst with ⟨rfl, rfl⟩ | ⟨⟨y, z, rfl⟩, rfl⟩
    · have HA : Hid (addSt most (some zs) ys = some (zs ++ ys)) := by
        show addSt most (some zs) ys = some (zs ++ ys)
        unfold addSt
        exact if_pos (by rw [HL.out, ← HN.out]; omega)
      have HO' : Hid (Ob w (g + 1) (.slice va L vc) zs) := by show Ob w (g + 1) (.slice va L vc) zs; rw [← HL.out, ← HV.out]; exact HO.out
      go_enter Tryd.func38, Tryd.ntmps38
      go_wp2
      go_quiet (fail)
      go_wp2_with (at_builtin; refine wpList_append_rd rfl _ _ rfl (g + 1) _ zs rfl (HO'.out.drewN nq) a n c ys rfl (HS.out.drewN nq) ?b ?base ?_)
      case b => rw [HL.out, ← HN.out]; omega
      case base => simp; omega
      intro v2 w2 hown2 hg2
      have hb2 : Below (g + 1) w w2 := Ob.below (HO'.out.drewN nq) (Below.drewN' (Below.refl _ _) nq) (by simp; omega) hg2
      have HO2 := hid hown2
      obtain ⟨a2, k2, hv2⟩ := hown2.shape
      have d0 := (hb2.cell (p := ⟨g, 0, none⟩) (by simp)).trans c0
      have d1 := (hb2.cell (p := ⟨g, 1, none⟩) (by simp)).trans c1
      have d2 := (hb2.cell (p := ⟨g, 2, none⟩) (by simp)).trans c2
      have e0 := (hb2.frozen (p := ⟨g, 0, none⟩) (by simp)).trans f0
      have e2 := (hb2.frozen (p := ⟨g, 2, none⟩) (by simp)).trans f2
      generalize hL2 : (zs ++ ys).length = L2 at hv2
      have HL2 := hid hL2
      have HV2 := hid hv2
      clear hown2 hg2 hL2
      rw [hv2]
      clear hv2
      go_wp2
      go_end0
      refine ⟨rfl, Below.setCell (p := ⟨g, 0, none⟩) (hb2.mono (Nat.le_succ g)) (Nat.le_refl g) _, ?_⟩
      rw [HA.out]
      refine ⟨.slice a2 L2 k2, .nilIface, zs ++ ys, World.cell?_setCell_same _ _ _ d0, ?_, ?_, by simpa using e0, by simpa using e2, ?_, ?_, hm, byte_append HB.out HY.out, .inl ⟨rfl, rfl⟩⟩
      · rw [World.cell?_setCell_other (h := by simp)]; exact d1
      · rw [World.cell?_setCell_other (h := by simp)]; exact d2
      · rw [← HV2.out]; exact ownsRow_setCell_below HO2.out (by simp) _
      · rw [List.length_append, HL.out, ← HN.out]; omega
    · go_enter Tryd.func38, Tryd.ntmps38
      go_wp2
      go_quiet (fail)
      go_wp2
      go_end0
      exact ⟨rfl, Below.drewN' (Below.refl _ _) nq, HW.out.drewN nq⟩

set_option maxHeartbeats 400000 in
theorem addByte_any (g most : Nat) (st : Option (List Int)) (z : Int) (w : World) (h : Wr w g most st) (he : Err w 1) (hg : 1 < g) (h0 : 0 ≤ z) (h1 : z ≤ 255) :
    Calls Tryd.prog 42 #[.pointer (some ⟨g, 0, none⟩), .int .u8 z] w fun e w' => e = .returned (.tuple #[]) ∧ Below g w w' ∧ Wr w' g most (addSt most st [z]) := by
  have hlt := h.lt
  have HW := hid h
  have HE := hid he
  clear h he
  have hb1 : Below g w (w.alloc (.cells #[.int .u8 z] 5)) := (Below.refl _ _).alloc (Nat.le_of_lt hlt) _
  have HB := hid hb1
  clear hb1
  go_enter Tryd.func42, Tryd.ntmps42
  go_wp2_with (go_at_call 38; refine (add_any g most st _ 1 1 [z] _ (HW.out.alloc _) (HE.out.below HB.out hg) (rd_one w z h0 h1) (by omega)).mono ?_; rintro e w1 ⟨rfl, hb, hw⟩)
  go_end0
  exact ⟨rfl, HB.out.trans hb, hw⟩
theorem addSt_none (most : Nat) (ys : List Int) : addSt most none ys = none := rfl
theorem addSt_addSt (most : Nat) (st : Option (List Int)) (xs ys : List Int) : addSt most (addSt most st xs) ys = addSt most st (xs ++ ys) := by
  cases st with
  | none => rfl
  | some zs =>
    by_cases h : zs.length + xs.length ≤ most
    · have e : addSt most (some zs) xs = some (zs ++ xs) := by unfold addSt; exact if_pos h
      rw [e]
      unfold addSt
      simp [Nat.add_assoc]
    · have e : addSt most (some zs) xs = none := by unfold addSt; exact if_neg h
      have e2 : addSt most (some zs) (xs ++ ys) = none := by unfold addSt; exact if_neg (by rw [List.length_append]; omega)
      rw [e, e2, addSt_none]
theorem Wr.add_nil {w : World} {g most : Nat} {st : Option (List Int)} (h : Wr w g most st) : addSt most st [] = st := by
  obtain ⟨v, ev, zs, _, _, _, _, _, _, hl, _, _, ⟨_, rfl⟩ | ⟨_, rfl⟩⟩ := h
  · unfold addSt; simp [hl]
  · rfl

set_option maxHeartbeats 400000 in
theorem isNumber_any (n : Int) (w : World) (b : Bool) (hb : b = decide (0 ≤ n ∧ n ≤ 1099511627775)) :
    Calls Tryd.prog 40 #[.int .i64 n] w fun e w' => e = .returned (.bool b) ∧ w = w' := by
  have HB : Hid (b = decide (0 ≤ n ∧ n ≤ 1099511627775)) := hb
  clear hb
  by_cases h0 : 0 ≤ n
  · by_cases h1 : n ≤ 1099511627775
    · go_enter Tryd.func40, Tryd.ntmps40
      go_wp2
      go_ret
      exact ⟨by rw [HB.out]; simp [h0, h1], rfl⟩
    · go_enter Tryd.func40, Tryd.ntmps40
      go_wp2
      go_ret
      exact ⟨by rw [HB.out]; simp [h1], rfl⟩
  · go_enter Tryd.func40, Tryd.ntmps40
    go_wp2
    go_ret
    exact ⟨by rw [HB.out, decide_eq_false (by omega)]; rfl, rfl⟩
/-- What number does to the writer's state. -/
def numSt (most : Nat) (st : Option (List Int)) (n : Int) : Option (List Int) := if 0 ≤ n ∧ n ≤ 1099511627775 then addSt most st (enc n) else none

set_option maxHeartbeats 800000 in
theorem number_any (g most : Nat) (st : Option (List Int)) (m : Int) (w : World) (h : Wr w g most st) (he : Err w 1) (he2 : Err w 0) (hg : 1 < g) :
    Calls Tryd.prog 15 #[.pointer (some ⟨g, 0, none⟩), .int .i64 m] w fun e w' => e = .returned (.tuple #[]) ∧ Below g w w' ∧ Wr w' g most (numSt most st m) := by
  by_cases hok : 0 ≤ m ∧ m ≤ 1099511627775
  · have HA : Hid (numSt most st m = addSt most st (enc m)) := by show numSt most st m = addSt most st (enc m); unfold numSt; exact if_pos hok
    obtain ⟨h0, h1⟩ := hok
    have HW := hid h
    have HE := hid he
    clear h he he2
    go_enter Tryd.func15, Tryd.ntmps15
    go_wp2_with (go_at_call 40; refine (isNumber_any m _ true (by simp [h0, h1])).mono ?_; rintro e w' ⟨rfl, rfl⟩)
    go_loopw [1] (fun i wr => ∃ (f : Nat) (q : Int) (ds : List Int), i = .int .i64 q ∧ 0 ≤ q ∧ q ≤ 1099511627775 ∧ q < bnd f ∧ ds ++ encF f q = enc m ∧ Wr wr g most (addSt most st ds) ∧ Below g w wr) (fun i _ => (intOf i).toNat)
    case atStart => exact ⟨6, m, [], rfl, h0, h1, by simp [bnd]; omega, rfl, by rw [HW.out.add_nil]; exact HW.out, Below.refl _ _⟩
    case round =>
      obtain ⟨f, q, ds, rfl, hq0, hq1, hqb, hds, hwr, hbel⟩ := hrel
      have HD := hid hds
      have HQ := hid hqb
      have HR := hid hwr
      clear hds hqb hwr
      have HE2 := hid (HE.out.below hbel hg)
      by_cases hge : 128 ≤ q
      · obtain ⟨f', hf'⟩ : ∃ f', f = f' + 1 := by
          cases f with
          | zero => have := HQ.out; simp [bnd] at this; omega
          | succ f => exact ⟨f, rfl⟩
        subst hf'
        have HD2 : Hid (ds ++ [q % 128 + 128] ++ encF f' (q / 128) = enc m) := by
          show ds ++ [q % 128 + 128] ++ encF f' (q / 128) = enc m
          rw [← HD.out, encF_big f' q hge, Int.add_comm]; simp
        have HQ2 : Hid (q / 128 < bnd f') := bnd_down f' q HQ.out
        go_wp2_with (go_at_call 42; refine (addByte_any g most _ (q % 128 + 128) _ HR.out HE2.out hg (by omega) (by omega)).mono ?_; rintro e w2 ⟨rfl, hb2, hw2⟩)
        go_roundw
        case rel => exact ⟨f', q / 128, ds ++ [q % 128 + 128], rfl, by omega, by omega, HQ2.out, HD2.out, by rw [← addSt_addSt]; exact hw2, hbel.trans hb2⟩
        case measure => simp [intOf]; omega
      · have HE3 : Hid (ds ++ [q] = enc m) := by
          show ds ++ [q] = enc m
          rw [← HD.out, encF_small f q (by omega)]
        go_wp2_with (go_at_call 42; refine (addByte_any g most _ q _ HR.out HE2.out hg (by omega) (by omega)).mono ?_; rintro e w2 ⟨rfl, hb2, hw2⟩)
        go_end0
        exact ⟨rfl, hbel.trans hb2, by rw [HA.out, ← HE3.out, ← addSt_addSt]; exact hw2⟩
  · have HA : Hid (numSt most st m = none) := by show numSt most st m = none; unfold numSt; exact if_neg hok
    have HW := hid h
    obtain ⟨t, x, hx⟩ := he2
    obtain ⟨v, ev, zs, c0, c1, c2, f0, f2, ho, hl, hm, hb, hst⟩ := h
    have HO := hid ho
    have HB := hid hb
    clear ho hb he
    rcases hst with ⟨rfl, rfl⟩ | ⟨⟨y, z, rfl⟩, rfl⟩
    · go_enter Tryd.func15, Tryd.ntmps15
      go_wp2_with (first
        | (go_at_call 40; refine (isNumber_any m _ false (by rw [decide_eq_false hok])).mono ?_; rintro e w' ⟨rfl, rfl⟩)
        | (go_at_call 41; refine (fail_set g t x _ c2 f2).mono ?_; rintro e w1 ⟨rfl, hw1⟩))
      refine bodyPost_ret (results_none rfl _ _ _) rfl ⟨rfl, ?_, ?_⟩
      · exact Below.setCell (p := ⟨g, 2, none⟩) (Below.refl g w) (Nat.le_refl g) _
      · rw [HA.out]; exact wr_failed c0 c1 c2 f0 f2 HO.out hl hm HB.out
    · go_enter Tryd.func15, Tryd.ntmps15
      go_wp2_with (first
        | (go_at_call 40; refine (isNumber_any m _ false (by rw [decide_eq_false hok])).mono ?_; rintro e w' ⟨rfl, rfl⟩)
        | (go_at_call 41; refine (fail_keep g t x _ y z c2).mono ?_; rintro e w1 ⟨rfl, rfl⟩))
      exact bodyPost_ret (results_none rfl _ _ _) rfl ⟨rfl, Below.refl _ _, by rw [HA.out]; exact HW.out⟩
set_option maxHeartbeats 400000 in
/-- A new writer begins with a copy of the bytes. -/
theorem newWriter_any (most : Nat) (a : Option Addr) (n c : Nat) (ys : List Int) (w : World) (he : Err w 1) (hg : 1 < w.heap.size) (hs : Rd w a n c ys) (hn : n ≤ 1099511627776) (hm : most ≤ 1099511627776) :
    Calls Tryd.prog 12 #[.slice a n c, .int .i64 most] w fun e w' => e = .returned (.pointer (some ⟨w.heap.size, 0, none⟩)) ∧ Below w.heap.size w w' ∧ Wr w' w.heap.size most (addSt most (some []) ys) := by
  have HE := hid he
  have HS := hid hs
  have HG := hid hg
  clear he hs hg
  go_enter Tryd.func12, Tryd.ntmps12
  have hw0 : Wr (w.alloc (.cells #[.slice none 0 0, .int .i64 most, .nilIface] 76)) w.heap.size most (some []) := by
    refine ⟨.slice none 0 0, .nilIface, [], ?_, ?_, ?_, World.frozen?_alloc_at (hn := rfl) .., World.frozen?_alloc_at (hn := rfl) .., World.ownsRow_nil _ _ _ _, by simp, hm, by simp, .inl ⟨rfl, rfl⟩⟩
    · rw [World.cell?_alloc_at (hn := rfl)]; rfl
    · rw [World.cell?_alloc_at (hn := rfl)]; rfl
    · rw [World.cell?_alloc_at (hn := rfl)]; rfl
  have hb0 : Below w.heap.size w (w.alloc (.cells #[.slice none 0 0, .int .i64 most, .nilIface] 76)) := (Below.refl _ _).alloc (Nat.le_refl _) _
  have HW0 := hid hw0
  have HB0 := hid hb0
  clear hw0 hb0
  go_wp2_with (go_at_call 38; refine (add_any w.heap.size most (some []) a n c ys _ HW0.out (HE.out.below HB0.out HG.out) (HS.out.kept HB0.out) hn).mono ?_; rintro e w1 ⟨rfl, hb1, hw1⟩)
  go_ret
  exact ⟨rfl, HB0.out.trans hb1, hw1⟩

set_option maxHeartbeats 400000 in
theorem told_none (g most : Nat) (w : World) (h : Wr w g most none) :
    Calls Tryd.prog 18 #[.pointer (some ⟨g, 0, none⟩)] w fun e w' => e = .returned (.tuple #[.slice none 0 0, .bool false]) ∧ w = w' := by
  obtain ⟨v, ev, zs, c0, c1, c2, f0, f2, ho, hl, hm, hb, ⟨_, h⟩ | ⟨⟨t, x, rfl⟩, _⟩⟩ := h
  · cases h
  · clear ho hb
    go_enter Tryd.func18, Tryd.ntmps18
    go_wp2
    go_ret2
    exact ⟨rfl, rfl⟩
set_option maxHeartbeats 400000 in
theorem told_some (g most : Nat) (out : List Int) (w : World) (h : Wr w g most (some out)) :
    Calls Tryd.prog 18 #[.pointer (some ⟨g, 0, none⟩)] w fun e w' => ∃ v, e = .returned (.tuple #[v, .bool true]) ∧ Ob w (g + 1) v out ∧ w = w' := by
  obtain ⟨v, ev, zs, c0, c1, c2, f0, f2, ho, hl, hm, hb, ⟨rfl, h⟩ | ⟨⟨t, x, rfl⟩, h⟩⟩ := h
  · cases h
    obtain ⟨va, vc, hv⟩ := ho.shape
    have HO := hid ho
    have HV := hid hv
    rw [hv] at c0
    clear ho hb hv
    go_enter Tryd.func18, Tryd.ntmps18
    go_wp2
    go_ret2
    exact ⟨_, rfl, by have := HO.out; rw [HV.out] at this; exact this, rfl⟩
  · cases h
end Go.Proofs.YtbaggkfgnjenoacDoor
/-
  What the model's PutVar answers, for every slice of bytes and every number.
-/
namespace Go.Proofs.YtbaggkfgnjenoacDoor
open Go.RowKit

set_option maxHeartbeats 400000 in
theorem specNum_any (n : Int) (w : World) (b : Bool) (hb : b = decide (0 ≤ n ∧ n ≤ 1099511627775)) :
    Calls Tryd.prog 24 #[.int .i64 n] w fun e w' => e = .returned (.bool b) ∧ w = w' := by
  have HB : Hid (b = decide (0 ≤ n ∧ n ≤ 1099511627775)) := hb
  clear hb
  by_cases h0 : 0 ≤ n
  · by_cases h1 : n ≤ 1099511627775
    · go_enter Tryd.func24, Tryd.ntmps24
      go_wp2
      go_ret
      exact ⟨by rw [HB.out]; simp [h0, h1], rfl⟩
    · go_enter Tryd.func24, Tryd.ntmps24
      go_wp2
      go_ret
      exact ⟨by rw [HB.out]; simp [h1], rfl⟩
  · go_enter Tryd.func24, Tryd.ntmps24
    go_wp2
    go_ret
    exact ⟨by rw [HB.out, decide_eq_false (by omega)]; rfl, rfl⟩

/-- What a put leaves: nil and false, or a row of the call's own and true. -/
def Put (w : World) (r : Option (List Int)) (e : Ending) (w' : World) : Prop :=
  Below w.heap.size w w' ∧ ((r = none ∧ e = .returned (.tuple #[.slice none 0 0, .bool false])) ∨ ∃ v zs, r = some zs ∧ e = .returned (.tuple #[v, .bool true]) ∧ Ob w' w.heap.size v zs)

set_option maxHeartbeats 800000 in
theorem specPutVar_any (a : Option Addr) (n c : Nat) (zs : List Int) (m : Int) (w : World) (h : Rd w a n c zs) (hlen : n ≤ 1099511627776) :
    Calls Tryd.prog 27 #[.slice a n c, .int .i64 m] w fun e w' => Put w (pv zs m) e w' := by
  have HN : Hid (n = zs.length) := h.1
  by_cases hok : 0 ≤ m ∧ m ≤ 1099511627775
  · obtain ⟨h0, h1⟩ := hok
    go_enter Tryd.func27, Tryd.ntmps27
    go_wp2_with (first
      | (go_at_call 24; refine (specNum_any m _ true (by simp [h0, h1])).mono ?_; rintro e w' ⟨rfl, rfl⟩)
      | (at_builtin; refine wpList_append_rd rfl _ _ rfl w.heap.size _ [] rfl (ob_new w w.heap.size (Nat.le_refl _)) a n c zs rfl ?src ?b ?base ?_))
    case src => exact h.kept ((Below.refl _ _).alloc (Nat.le_refl _) _)
    case b => rw [← HN.out]; simp; omega
    case base => simp
    intro v1 w1 hown1 hg1
    have hb1 : Below w.heap.size w w1 := Ob.below (ob_new w w.heap.size (Nat.le_refl _)) ((Below.refl _ _).alloc (Nat.le_refl _) _) (by simp) hg1
    have hown1' : Ob w1 w.heap.size v1 zs := by simpa using hown1
    clear hown1 hg1
    go_wp2
    go_loopw [6, 1] (fun v i wr => ∃ (f : Nat) (q : Int) (ds : List Int), i = .int .i64 q ∧ 0 ≤ q ∧ q ≤ 1099511627775 ∧ q < bnd f ∧ f ≤ 6 ∧ ds.length + f ≤ 6 ∧ ds ++ encF f q = enc m ∧ (∀ z ∈ ds, 0 ≤ z ∧ z ≤ 255) ∧ Ob wr w.heap.size v (zs ++ ds) ∧ Below w.heap.size w wr) (fun _ i _ => (intOf i).toNat)
    case atStart => exact ⟨6, m, [], rfl, h0, h1, by simp [bnd]; omega, by omega, by simp, rfl, by simp, by simpa using hown1', hb1⟩
    case round =>
      obtain ⟨f, q, ds, rfl, hq0, hq1, hqb, hf6, hdl, hds, hdb, hown, hbel⟩ := hrel
      have HD : Hid (ds ++ encF f q = enc m) := hds
      have HB : Hid (∀ z ∈ ds, 0 ≤ z ∧ z ≤ 255) := hdb
      have HQ : Hid (q < bnd f) := hqb
      have HO : Hid (Ob wr w.heap.size u6 (zs ++ ds)) := hown
      clear hds hdb hqb hown hb1 hown1'
      by_cases hge : 128 ≤ q
      · obtain ⟨f', hf'⟩ : ∃ f', f = f' + 1 := by
          cases f with
          | zero => have := HQ.out; simp [bnd] at this; omega
          | succ f => exact ⟨f, rfl⟩
        subst hf'
        have HD2 : Hid (ds ++ [128 + q % 128] ++ encF f' (q / 128) = enc m) := by
          show ds ++ [128 + q % 128] ++ encF f' (q / 128) = enc m
          rw [← HD.out, encF_big f' q hge]; simp
        have HQ2 : Hid (q / 128 < bnd f') := bnd_down f' q HQ.out
        go_wp2_with (at_builtin; refine wpList_append_rd rfl _ _ rfl w.heap.size _ (zs ++ ds) rfl (HO.out.alloc _) _ _ _ [128 + q % 128] rfl ?src ?b ?base ?_)
        case src => exact rd_one wr (128 + q % 128) (by omega) (by omega)
        case b => have := HN.out; simp; omega
        case base => have := hbel.size; simp; omega
        intro v2 w2 hown2 hg2
        have hb2 : Below w.heap.size w w2 := Ob.below (HO.out.alloc _) (hbel.alloc hbel.size _) (by have := hbel.size; simp; omega) hg2
        have HO2 : Hid (Ob w2 w.heap.size v2 (zs ++ (ds ++ [128 + q % 128]))) := hown2
        clear hown2 hg2
        go_wp2
        go_roundw
        case rel => exact ⟨f', q / 128, ds ++ [128 + q % 128], rfl, by omega, by omega, HQ2.out, by omega, by simp; omega, HD2.out, byte_append HB.out (by intro z hz; simp at hz; omega), HO2.out, hb2⟩
        case measure => simp [intOf]; omega
      · have HE : Hid (ds ++ [q] = enc m) := by
          show ds ++ [q] = enc m
          rw [← HD.out, encF_small f q (by omega)]
        go_wp2_with (at_builtin; refine wpList_append_rd rfl _ _ rfl w.heap.size _ (zs ++ ds) rfl (HO.out.alloc _) _ _ _ [q] rfl ?src ?b ?base ?_)
        case src => exact rd_one wr q (by omega) (by omega)
        case b => have := HN.out; simp; omega
        case base => have := hbel.size; simp; omega
        intro v2 w2 hown2 hg2
        have hb2 : Below w.heap.size w w2 := Ob.below (HO.out.alloc _) (hbel.alloc hbel.size _) (by have := hbel.size; simp; omega) hg2
        have hown3 : Ob w2 w.heap.size v2 (zs ++ enc m) := by
          rw [← HE.out]; exact hown2
        have HO2 : Hid (Ob w2 w.heap.size v2 (zs ++ enc m)) := hown3
        obtain ⟨a2, c2, hv2⟩ := hown3.shape
        have hl2 : (zs ++ enc m).length ≤ 1099511627783 := by
          have := (enc_len m).2
          have := HN.out
          simp; omega
        generalize hL : (zs ++ enc m).length = L at hv2 hl2
        have HL : Hid ((zs ++ enc m).length = L) := hL
        clear hown2 hg2 hown3 hL
        rw [hv2]
        by_cases hbig : 4096 < L
        · go_wp2
          go_ret2
          exact ⟨hb2, .inl ⟨pv_long _ _ (by rw [HL.out]; exact hbig), rfl⟩⟩
        · go_wp2
          go_ret2
          exact ⟨hb2, .inr ⟨_, _, pv_ok _ _ h0 h1 (by rw [HL.out]; omega), rfl, by rw [← hv2]; exact HO2.out⟩⟩
  · have HB : Hid (pv zs m = none) := pv_bad zs m (by omega)
    go_enter Tryd.func27, Tryd.ntmps27
    go_wp2_with (go_at_call 24; refine (specNum_any m _ false (by rw [decide_eq_false hok])).mono ?_; rintro e w' ⟨rfl, rfl⟩)
    go_ret2
    exact ⟨Below.refl _ _, .inl ⟨HB.out, rfl⟩⟩
end Go.Proofs.YtbaggkfgnjenoacDoor
/-
  What the program's PutVar answers, for every slice of bytes and every number: the same as the model's.
-/
namespace Go.Proofs.YtbaggkfgnjenoacDoor
open Go.RowKit

theorem addSt_start (most : Nat) (zs : List Int) : addSt most (some []) zs = if zs.length ≤ most then some zs else none := by
  unfold addSt; simp
theorem addSt_two (most : Nat) (xs ys : List Int) : addSt most (addSt most (some []) xs) ys = if (xs ++ ys).length ≤ most then some (xs ++ ys) else none := by
  rw [addSt_addSt, addSt_start]
theorem Ob.mono {w : World} {B B' : Nat} {v : Value} {zs : List Int} (h : Ob w B v zs) (hB : B' ≤ B) : Ob w B' v zs := by
  obtain ⟨h1, h2⟩ := h
  refine ⟨h1, ?_⟩
  rcases h2 with h | ⟨g, cap, cur, e, hbg, hr⟩
  · exact .inl h
  · exact .inr ⟨g, cap, cur, e, Nat.le_trans hB hbg, hr⟩
/-- What told tells, as a put. -/
theorem told_put (w w1 : World) (most : Nat) (st : Option (List Int)) (h : Wr w1 w.heap.size most st) (hb : Below w.heap.size w w1) :
    Calls Tryd.prog 18 #[.pointer (some ⟨w.heap.size, 0, none⟩)] w1 fun e w' => ∃ v b, e = .returned (.tuple #[v, .bool b]) ∧ (∃ a n c, v = .slice a n c) ∧ Put w st (.returned (.tuple #[v, .bool b])) w' := by
  cases st with
  | none =>
    refine (told_none w.heap.size most w1 h).mono ?_
    rintro e w' ⟨rfl, rfl⟩
    exact ⟨_, _, rfl, ⟨_, _, _, rfl⟩, hb, .inl ⟨rfl, rfl⟩⟩
  | some out =>
    refine (told_some w.heap.size most out w1 h).mono ?_
    rintro e w' ⟨v, rfl, ho, rfl⟩
    obtain ⟨a, c, hv⟩ := ho.shape
    exact ⟨_, _, rfl, ⟨_, _, _, hv⟩, hb, .inr ⟨v, out, rfl, rfl, ho.mono (Nat.le_succ _)⟩⟩
end Go.Proofs.YtbaggkfgnjenoacDoor
/-
  'append(v, make([]byte, k)...)' onto a slice of bytes that the call owns; '[]byte(s)' as a slice that is read.
-/
namespace Go.Proofs.YtbaggkfgnjenoacDoor
open Go.RowKit

theorem zeroCells_one (k : Nat) : Builtin.zeroCells #[.int .u8 0] k = (List.replicate k (Value.int .u8 0)).toArray := by
  apply Array.ext
  · simp [Builtin.zeroCells]
  · intro i h1 h2
    simp [Builtin.zeroCells, Nat.mod_one]

theorem run_append_zeros {w : World} (ty : TypeId) (base : Nat) (v : Value) (zs : List Int) (hown : Ob w base v zs) (k : Nat) (hb : zs.length + k ≤ 70368744177664) (hbase : base ≤ w.heap.size) :
    ∃ v' w', (Builtin.append_ #[22, 3] ty #[v, .int .i64 (k : Int)]).run Tryd.prog w = .ok v' w' ∧ Ob w' base v' (zs ++ List.replicate k 0) ∧ w.grownBy w' v.ownBlock := by
  obtain ⟨i0, hi, hz0, hz1, hz2⟩ := info_parts infoU8
  have hwr : IntKind.i64.wrap (k : Int) = k := by rw [IntKind.wrap_i64]; omega
  have hneg : ¬ ((k : Int) < 0) := by omega
  have h48 : ¬ (281474976710656 < (k : Int)) := by omega
  have ht := Tryd.underlying22
  have htn := Tryd.underlying3
  have grown : ∀ (old : Nat), old < zs.length + k → ∀ (row : Option Nat),
      Ob (w.drew.alloc (.cells ((zs.map (Value.int .u8)).toArray ++ Builtin.zeroCells #[.int .u8 0] k ++ Builtin.zeroCells #[.int .u8 0] (grownCap w (zs.length + k) old 5 - (zs.length + k))) 5)) base
        (.slice (some ⟨w.heap.size, 0, none⟩) (zs.length + k) (grownCap w (zs.length + k) old 5)) (zs ++ List.replicate k 0) ∧
      w.grownBy (w.drew.alloc (.cells ((zs.map (Value.int .u8)).toArray ++ Builtin.zeroCells #[.int .u8 0] k ++ Builtin.zeroCells #[.int .u8 0] (grownCap w (zs.length + k) old 5 - (zs.length + k))) 5)) row := by
    intro old ho row
    have hge := grownCap_ge w (zs.length + k) old 5
    have hcm : grownCap w (zs.length + k) old 5 ≤ maxLen := grownCap_le_maxLen w (zs.length + k) old 5 (by unfold maxLen; omega)
    have hl : (zs ++ List.replicate k (0 : Int)).length = zs.length + k := by simp
    refine ⟨⟨by simp, .inr ⟨w.heap.size, _, _, by rw [hl], hbase, heap_alloc_new w.drew _, by rw [hl]; exact hge, hcm, ?_, ?_⟩⟩, ⟨rfl, rfl, rfl, by simp, fun j hj _ => Below.heap_alloc w.drew _ j hj⟩⟩
    · simp [zeroCells_one]; omega
    · rw [hl, zeroCells_one, Nat.mul_one]
      simp only [Array.toList_append, List.map_append, List.map_replicate]
      rw [List.take_left' (by simp)]
  have hcc : (Value.int .u8 0).cells = #[.int .u8 0] := rfl
  rcases hown.2 with ⟨rfl, h0⟩ | ⟨g, cap, cur, rfl, hbg, hg, hnc, hcm, hcs, htake⟩
  · have hx : zs = [] := List.eq_nil_of_length_eq_zero h0
    subst hx
    by_cases hk : k = 0
    · subst hk
      refine ⟨.slice none 0 0, w, ?_, World.ownsRow_nil w base 5 1, ⟨rfl, rfl, rfl, Nat.le_refl _, fun _ _ _ => rfl⟩⟩
      simp [Builtin.append_, run_underlying ht, run_underlying htn, sizeOf, typeInfo, hi, hz2, asInt, asIntOf, IntKind.wrap_i64]
    · have hgr := grown 0 (by simp; omega) (Value.ownBlock (.slice none 0 0))
      simp only [List.length_nil, Nat.zero_add, List.map_nil, List.nil_append, Array.empty_append] at hgr ⊢
      refine ⟨_, _, ?_, hgr.1, hgr.2⟩
      have h63 : ¬ (9223372036854775807 < (k : Int)) := by omega
      have hfit := growslice_fits (need := k) (old := 0) (bytes := 1) (by omega) (by omega)
      have hfit' : ¬ (281474976710656 < Builtin.nextslicecap k 0) := by omega
      have hk' : ¬ k ≤ 0 := by omega
      simp [Builtin.append_, run_underlying ht, run_underlying htn, sizeOf, typeInfo, hi, hz0, hz1, hz2, asInt, asIntOf, hwr, hneg, h48, hk, h63, hfit', zeroValue, hcc, Question.forced, Builtin.firstCells, newRow, grownCap]
  · by_cases hroom : zs.length + k ≤ cap
    · have hst := run_storeCells_at Tryd.prog g zs.length 5 (List.replicate k (.int .u8 0)) 0 cur w hg (by simp; omega) (by intro v hv; obtain ⟨_, rfl⟩ := List.mem_replicate.1 hv; rfl)
      simp only [Nat.add_zero, List.length_replicate] at hst
      have hr : (Builtin.append_ #[22, 3] ty #[.slice (some ⟨g, 0, none⟩) zs.length cap, .int .i64 (k : Int)]).run Tryd.prog w = .ok (.slice (some ⟨g, 0, none⟩) (zs.length + k) cap) (w.setRow g (cur.toList.take zs.length ++ List.replicate k (Value.int .u8 0) ++ cur.toList.drop (zs.length + k)).toArray) := by
        by_cases hk : k = 0
        · subst hk
          simp only [List.replicate_zero, List.append_nil, Nat.add_zero, List.take_append_drop, Array.toArray_toList] at hst ⊢
          simp [Builtin.append_, run_underlying ht, run_underlying htn, sizeOf, typeInfo, hi, hz1, hz2, asInt, asIntOf, IntKind.wrap_i64, hnc, Addr.add_lit, hst]
        · simp [Builtin.append_, run_underlying ht, run_underlying htn, sizeOf, typeInfo, hi, hz0, hz1, hz2, asInt, asIntOf, hwr, hneg, h48, hk, hroom, zeroValue, hcc, zeroCells_one, Addr.add_lit, hst]
      refine ⟨_, _, hr, ⟨by simp, .inr ⟨g, cap, _, by simp, hbg, setRow_heap w g cur _ 5 _ hg, by simp; exact hroom, hcm, ?_, ?_⟩⟩, ⟨rfl, rfl, rfl, by simp, fun j _ hj => setRow_other w g j _ (fun e => hj (by simp [Value.ownBlock, e]))⟩⟩
      · simp only [List.size_toArray, List.length_append, List.length_take, List.length_drop, List.length_replicate, Array.length_toList]
        omega
      · have ht2 : cur.toList.take zs.length = zs.map (Value.int .u8) := by rw [← htake, Nat.mul_one]
        rw [ht2]
        simp only [List.map_append, List.map_replicate]
        rw [List.take_left' (by simp)]
    · have holds := hown.cells (g := g) rfl
      have hold : (Builtin.firstCells 1 zs.length (.slice (some ⟨g, 0, none⟩) zs.length cap)).run Tryd.prog w.drew = .ok (zs.map (Value.int .u8)).toArray w.drew := run_firstCells_some w.drew 1 zs.length ⟨g, 0, none⟩ zs.length cap (zs.map (Value.int .u8)) (by simp) holds
      have hgr := grown cap (by omega) (Value.ownBlock (.slice (some ⟨g, 0, none⟩) zs.length cap))
      refine ⟨_, _, ?_, hgr.1, hgr.2⟩
      have h63 : ¬ (9223372036854775807 < (zs.length : Int) + (k : Int)) := by omega
      have hfit := growslice_fits (need := zs.length + k) (old := cap) (bytes := 1) (by omega) (by omega)
      have hfit' : ¬ (281474976710656 < Builtin.nextslicecap (zs.length + k) cap) := by omega
      have hk : ¬ k = 0 := by omega
      simp [Builtin.append_, run_underlying ht, run_underlying htn, sizeOf, typeInfo, hi, hz0, hz1, hz2, asInt, asIntOf, hwr, hneg, h48, hk, h63, hfit', hroom, zeroValue, hcc, Question.forced, hold, newRow, grownCap]

theorem wpList_append_zeros {w : World} {ops : Array Oper} {rest : List Oper} {o : Oper} {a : Act} {Q : Exit → Act → World → Prop} (hgd : o.guard = none) (s x : Operand)
    (ho : o.op = .call { callee := .builtin .append, args := #[s, x], argTypes := #[22, 3] }) (base : Nat) (v : Value) (zs : List Int) (hs : a.eval s = v) (hown : Ob w base v zs)
    (k : Nat) (hx : a.eval x = .int .i64 (k : Int)) (hb : zs.length + k ≤ 70368744177664) (hbase : base ≤ w.heap.size)
    (h : ∀ v' w', Ob w' base v' (zs ++ List.replicate k 0) → w.grownBy w' v.ownBlock → wpList Tryd.prog ops Q rest (a.put o.dst v') w') : wpList Tryd.prog ops Q (o :: rest) a w := by
  refine wpList_plain hgd fun K hK => ?_
  obtain ⟨v', w', hr, h2, h3⟩ := run_append_zeros (w := w) o.type base v zs hown k hb hbase
  unfold Oper.wp execOp
  simp only [ho, resolve, invoke, builtin, Sem.run_bind, Sem.run_pure, Result.andThen_ok, List.map_toArray, List.map_cons, List.map_nil, hs, hx, hr]
  exact hK _ _ (h v' w' h2 h3)

/-- The bytes of a string. -/
def bytesOf (s : ByteArray) : List Int := s.data.toList.map fun b => (b.toNat : Int)
theorem bytesOf_len (s : ByteArray) : (bytesOf s).length = s.size := by
  simp [bytesOf]
theorem bytesOf_byte (s : ByteArray) : ∀ z ∈ bytesOf s, 0 ≤ z ∧ z ≤ 255 := by
  intro z hz
  obtain ⟨b, _, rfl⟩ := List.mem_map.1 hz
  have := b.toNat_lt
  omega
theorem rd_conv (w : World) (s : ByteArray) (c : Nat) (fr : Nat × Nat) (hs : s.size ≤ 140737488355328) (hc : s.size ≤ c) (hm : c ≤ 9223372036854775807) :
    Rd (w.alloc (.cells (bytesRow s c) 5 fr)) (some ⟨w.heap.size, 0, none⟩) s.size c (bytesOf s) := by
  refine ⟨(bytesOf_len s).symm, hc, hm, hs, fun i => ?_, fun _ => ⟨w.heap.size, 0, rfl, by simp, fun i hi => ?_⟩⟩
  · by_cases hi : i < (bytesOf s).length
    · rw [List.getElem?_eq_getElem hi]; exact bytesOf_byte s _ (List.getElem_mem hi)
    · rw [List.getElem?_eq_none (by omega)]; simp
  · rw [World.cell?_alloc_mark]
    simp [bytesRow, bytesOf, Array.getElem?_append, hi]
end Go.Proofs.YtbaggkfgnjenoacDoor
/-
  What both PutTexts answer, for every slice of bytes and every string that is not too long.
-/
namespace Go.Proofs.YtbaggkfgnjenoacDoor
open Go.RowKit

theorem specPutVar_none (a : Option Addr) (n c : Nat) (zs : List Int) (m : Int) (w : World) (h : Rd w a n c zs) (hlen : n ≤ 1099511627776) (hr : pv zs m = none) :
    Calls Tryd.prog 27 #[.slice a n c, .int .i64 m] w fun e w' => e = .returned (.tuple #[.slice none 0 0, .bool false]) ∧ Below w.heap.size w w' := by
  refine (specPutVar_any a n c zs m w h hlen).mono ?_
  rintro e w' ⟨hb, ⟨_, he⟩ | ⟨v, zs', hr', _⟩⟩
  · exact ⟨he, hb⟩
  · rw [hr] at hr'; cases hr'
theorem specPutVar_some (a : Option Addr) (n c : Nat) (zs out : List Int) (m : Int) (w : World) (h : Rd w a n c zs) (hlen : n ≤ 1099511627776) (hr : pv zs m = some out) :
    Calls Tryd.prog 27 #[.slice a n c, .int .i64 m] w fun e w' => ∃ v, e = .returned (.tuple #[v, .bool true]) ∧ Ob w' w.heap.size v out ∧ Below w.heap.size w w' := by
  refine (specPutVar_any a n c zs m w h hlen).mono ?_
  rintro e w' ⟨hb, ⟨hr', _⟩ | ⟨v, zs', hr', he, ho⟩⟩
  · rw [hr] at hr'; cases hr'
  · rw [hr] at hr'; cases hr'
    exact ⟨v, he, ho, hb⟩
theorem Ob.drew {w : World} {B : Nat} {v : Value} {zs : List Int} (h : Ob w B v zs) : Ob w.drew B v zs := h
/-- What PutText answers. -/
def pt (zs : List Int) (s : ByteArray) : Option (List Int) := if (zs ++ enc s.size ++ bytesOf s).length ≤ 4096 then some (zs ++ enc s.size ++ bytesOf s) else none

set_option maxHeartbeats 800000 in
theorem specPutText_any (a : Option Addr) (n c : Nat) (zs : List Int) (s : ByteArray) (w : World) (h : Rd w a n c zs) (hlen : n ≤ 1099511627776) (hs : s.size ≤ 1048576) :
    Calls Tryd.prog 28 #[.slice a n c, .string s] w fun e w' => Put w (pt zs s) e w' := by
  have HR := hid h
  clear h
  by_cases h1 : (zs ++ enc s.size).length ≤ 4096
  · have HP := hid (pv_ok zs s.size (by omega) (by omega) h1)
    have hol : (zs ++ enc s.size).length ≤ 4096 := h1
    have HT : Hid (pt zs s = if (zs ++ enc s.size).length + s.size ≤ 4096 then some (zs ++ enc s.size ++ bytesOf s) else none) := by
      show pt zs s = _
      unfold pt
      rw [show (zs ++ enc s.size ++ bytesOf s).length = (zs ++ enc s.size).length + s.size from by rw [List.length_append, bytesOf_len]]
    clear h1
    generalize zs ++ enc s.size = out at HP hol HT
    generalize hL : out.length = L at HT hol
    have HL := hid hL
    clear hL
    have hcv := fun w => run_bytes_of_string (P := Tryd.prog) w 9 22 5 s Tryd.underlying9 Tryd.underlying22 Tryd.underlying5
    by_cases hbig : (4096 : Int) - (L : Int) < (s.size : Int)
    · have HN : Hid (pt zs s = none) := by show pt zs s = none; rw [HT.out]; exact if_neg (by omega)
      go_enter Tryd.func28, Tryd.ntmps28
      go_wp2_with fail
      refine (specPutVar_some a n c zs out _ w HR.out hlen HP.out).mono ?_
      rintro e w1 ⟨v, rfl, ho, hb1⟩
      obtain ⟨a1, c1, hv⟩ := ho.shape
      have HO := hid ho
      rw [HL.out] at hv
      clear ho
      rw [hv]
      go_wp2
      go_ret2
      exact ⟨hb1, .inl ⟨HN.out, rfl⟩⟩
    · have HN : Hid (pt zs s = some (out ++ bytesOf s)) := by show pt zs s = some (out ++ bytesOf s); rw [HT.out]; exact if_pos (by omega)
      go_enter Tryd.func28, Tryd.ntmps28
      go_wp2_with fail
      refine (specPutVar_some a n c zs out _ w HR.out hlen HP.out).mono ?_
      rintro e w1 ⟨v, rfl, ho, hb1⟩
      obtain ⟨a1, c1, hv⟩ := ho.shape
      rw [HL.out] at hv
      have HO : Hid (Ob w1 w.heap.size (.slice a1 L c1) out) := by show Ob w1 w.heap.size (.slice a1 L c1) out; rw [← hv]; exact ho
      clear ho
      rw [hv]
      clear hv
      go_wp2_with (at_builtin; refine wpList_append_rd rfl _ _ rfl w.heap.size _ out rfl ?own _ _ _ (bytesOf s) rfl ?src ?b ?base ?_)
      case own => exact HO.out.alloc _
      case src => exact rd_conv _ s _ _ (by omega) (grownCap_ge _ _ _ _) (by have := grownCap_le_maxLen w1 s.size 0 5 (by unfold maxLen; omega); unfold maxLen at this; omega)
      case b => rw [HL.out, bytesOf_len]; omega
      case base => have := hb1.size; simp; omega
      intro v2 w2 hown2 hg2
      have hb2 : Below w.heap.size w w2 := Ob.below (HO.out.alloc _).drew ((hb1.alloc hb1.size _).drew) (by have := hb1.size; simp; omega) hg2
      have HO2 := hid hown2
      obtain ⟨a2, c2, hv2⟩ := hown2.shape
      clear hown2 hg2
      go_wp2
      go_ret2
      exact ⟨hb2, .inr ⟨v2, out ++ bytesOf s, HN.out, rfl, HO2.out⟩⟩
  · have HP := hid (pv_long zs s.size (by omega))
    have HN : Hid (pt zs s = none) := by
      show pt zs s = none
      unfold pt
      rw [show (zs ++ enc s.size ++ bytesOf s).length = (zs ++ enc s.size).length + s.size from by rw [List.length_append, bytesOf_len]]
      exact if_neg (by omega)
    go_enter Tryd.func28, Tryd.ntmps28
    go_wp2_with (go_at_call 27; refine (specPutVar_none a n c zs _ w HR.out hlen HP.out).mono ?_; rintro e w1 ⟨rfl, hb1⟩)
    go_ret2
    exact ⟨hb1, .inl ⟨HN.out, rfl⟩⟩

set_option maxHeartbeats 400000 in
theorem text_any (g most : Nat) (st : Option (List Int)) (s : ByteArray) (w : World) (h : Wr w g most st) (he : Err w 1) (he2 : Err w 0) (hg : 1 < g) (hs : s.size ≤ 1048576) :
    Calls Tryd.prog 60 #[.pointer (some ⟨g, 0, none⟩), .string s] w fun e w' => e = .returned (.tuple #[]) ∧ Below g w w' ∧ Wr w' g most (addSt most (numSt most st s.size) (bytesOf s)) := by
  have hlt := h.lt
  have HW := hid h
  have HE := hid he
  have HE2 := hid he2
  clear h he he2
  have hcv := fun w => run_bytes_of_string (P := Tryd.prog) w 9 22 5 s Tryd.underlying9 Tryd.underlying22 Tryd.underlying5
  go_enter Tryd.func60, Tryd.ntmps60
  go_wp2_with (go_at_call 15; refine (number_any g most st s.size w HW.out HE.out HE2.out hg).mono ?_; rintro e w1 ⟨rfl, hb1, hw1⟩)
  have HW1 := hid hw1
  have HB1 := hid hb1
  clear hw1 hb1
  have hlt1 : g ≤ w1.heap.size := Nat.le_of_lt HW1.out.lt
  refine (add_any g most (numSt most st s.size) _ s.size _ (bytesOf s) _ ?gw ?ge ?gs (by omega)).mono ?_
  case gw => exact HW1.out.alloc _
  case ge => exact (HE.out.below HB1.out hg).below ((Below.refl g w1).alloc hlt1 _).drew hg
  case gs => exact rd_conv _ s _ _ (by omega) (grownCap_ge _ _ _ _) (by have := grownCap_le_maxLen w1 s.size 0 5 (by unfold maxLen; omega); unfold maxLen at this; omega)
  rintro e w2 ⟨rfl, hb2, hw2⟩
  have HB2 := hid hb2
  have HW2 := hid hw2
  clear hb2 hw2
  go_wp2
  go_end0
  exact ⟨rfl, HB1.out.trans (((Below.refl g w1).alloc hlt1 _).drew.trans HB2.out), HW2.out⟩
theorem addSt_pt (zs : List Int) (s : ByteArray) (hs : s.size ≤ 1048576) : addSt 4096 (numSt 4096 (addSt 4096 (some []) zs) s.size) (bytesOf s) = pt zs s := by
  unfold numSt
  rw [if_pos ⟨by omega, by omega⟩, addSt_addSt, addSt_addSt, addSt_start]
  unfold pt
  rw [List.append_assoc]

end Go.Proofs.YtbaggkfgnjenoacDoor
/-
  Records' texts as plain data.
-/
namespace Go.Proofs.YtbaggkfgnjenoacDoor
open Go.RowKit
set_option linter.unusedVariables false
def tpart (s : ByteArray) : List Int := enc s.size ++ bytesOf s
def tparts : List ByteArray → List Int
  | [] => []
  | s :: l => tpart s ++ tparts l
theorem tparts_append (l r : List ByteArray) : tparts (l ++ r) = tparts l ++ tparts r := by
  induction l with
  | nil => rfl
  | cons s l ih => simp only [List.cons_append, tparts, ih, List.append_assoc]
theorem tpart_len (s : ByteArray) : (tpart s).length ≤ s.size + 7 := by
  have := enc_len (s.size : Int)
  rw [tpart, List.length_append, bytesOf_len]; omega
theorem tpart_byte (s : ByteArray) (h : s.size ≤ 1048576) : ∀ z ∈ tpart s, 0 ≤ z ∧ z ≤ 255 := byte_append (enc_byte _ (by omega) (by omega)) (bytesOf_byte s)
theorem tparts_byte (l : List ByteArray) (h : ∀ s ∈ l, s.size ≤ 1048576) : ∀ z ∈ tparts l, 0 ≤ z ∧ z ≤ 255 := by
  induction l with
  | nil => intro z hz; cases hz
  | cons s l ih => exact byte_append (tpart_byte s (h s (by simp))) (ih (fun x hx => h x (by simp [hx])))
theorem tparts_len (l : List ByteArray) (h : ∀ s ∈ l, s.size ≤ 20) : (tparts l).length ≤ l.length * 27 := by
  induction l with
  | nil => simp [tparts]
  | cons s l ih =>
    have h1 := tpart_len s
    have h2 := h s (by simp)
    have h3 := ih (fun x hx => h x (by simp [hx]))
    simp only [tparts, List.length_append, List.length_cons]
    omega
def rcMark (k : Int) : Int := if k = 1 then 119 else if k = 2 then 103 else if k = 3 then 115 else 120
def rcPs (k : Int) (ky vl lo hi : ByteArray) : List ByteArray := if k = 1 then [ky, vl] else if k = 2 then [ky] else [lo, hi]
def rcBy (k : Int) (ky vl lo hi : ByteArray) : List Int := rcMark k :: tparts (rcPs k ky vl lo hi)
def rcTx (k : Int) (ky vl lo hi : ByteArray) : ByteArray := if rcOk k ky vl lo hi then strOf (rcBy k ky vl lo hi) else ⟨#[]⟩
/-- What a right record is, in numbers. -/
theorem rcOk_facts {k : Int} {ky vl lo hi : ByteArray} (h : rcOk k ky vl lo hi = true) : (k = 1 ∧ ky.size ≤ 8 ∧ vl.size ≤ 20 ∧ lo.toList = [] ∧ hi.toList = []) ∨ (k = 2 ∧ ky.size ≤ 8 ∧ vl.toList = [] ∧ lo.toList = [] ∧ hi.toList = []) ∨ ((k = 3 ∨ k = 4) ∧ ky.toList = [] ∧ vl.toList = [] ∧ lo.size ≤ 9 ∧ hi.size ≤ 9) := by
  by_cases k1 : k = 1
  · subst k1
    rw [rcOk_1] at h
    simp [uOk, uvOk, isE] at h
    exact .inl ⟨rfl, h.1.2, h.2.1, h.2.2.1, h.2.2.2⟩
  · by_cases k2 : k = 2
    · subst k2
      rw [rcOk_2] at h
      simp [uOk, isE] at h
      exact .inr (.inl ⟨rfl, h.1.2, h.2.1, h.2.2.1, h.2.2.2⟩)
    · by_cases k3 : k = 3 ∨ k = 4
      · have e : rcOk k ky vl lo hi = (isE ky && (isE vl && rchOk lo hi)) := by rcases k3 with rfl | rfl <;> rfl
        rw [e] at h
        simp [isE, rchOk] at h
        exact .inr (.inr ⟨k3, h.1, h.2.1, h.2.2.2.1, h.2.2.2.2⟩)
      · rw [rcOk_no k1 k2 (fun e => k3 (.inl e)) (fun e => k3 (.inr e))] at h
        cases h
theorem rcPs_small {k : Int} {ky vl lo hi : ByteArray} (h : rcOk k ky vl lo hi = true) : ∀ s ∈ rcPs k ky vl lo hi, s.size ≤ 20 := by
  rcases rcOk_facts h with ⟨rfl, h1, h2, _⟩ | ⟨rfl, h1, _⟩ | ⟨rfl | rfl, _, _, h1, h2⟩
  · intro s hs
    simp [rcPs] at hs
    rcases hs with rfl | rfl <;> omega
  · intro s hs
    simp [rcPs] at hs
    subst hs; omega
  · intro s hs
    simp [rcPs] at hs
    rcases hs with rfl | rfl <;> omega
  · intro s hs
    simp [rcPs] at hs
    rcases hs with rfl | rfl <;> omega
theorem Ob.rd' {w : World} {B : Nat} {v : Value} {zs : List Int} (h : Ob w B v zs) (hl : ∀ z ∈ zs, 0 ≤ z ∧ z ≤ 255) (hb : zs.length ≤ 4096) : ∃ a c, v = .slice a zs.length c ∧ Rd w a zs.length c zs := by
  obtain ⟨a, c, h1, h2, _⟩ := h.rd (byte_at hl) (by omega)
  exact ⟨a, c, h1, h2⟩
theorem specPT_fit (a : Option Addr) (n c : Nat) (zs : List Int) (s : ByteArray) (w : World) (h : Rd w a n c zs) (hz : zs.length ≤ 1000) (hs : s.size ≤ 20) :
    Calls Tryd.prog 28 #[.slice a n c, .string s] w fun e w' => ∃ a' n' c', e = .returned (.tuple #[.slice a' n' c', .bool true]) ∧ Rd w' a' n' c' (zs ++ tpart s) ∧ Below w.heap.size w w' := by
  have hn := h.len
  have hb := at_byte h.2.2.2.2.1
  refine (specPutText_any a n c zs s w h (by omega) (by omega)).mono ?_
  rintro e w' ⟨hbel, hp⟩
  have hl := tpart_len s
  have hpt : pt zs s = some (zs ++ tpart s) := by
    unfold pt
    rw [if_pos (by rw [List.append_assoc, List.length_append]; unfold tpart at hl; omega), List.append_assoc]; rfl
  rw [hpt] at hp
  rcases hp with ⟨h0, _⟩ | ⟨v, zs', h0, rfl, ho⟩
  · cases h0
  · cases h0
    obtain ⟨a', c', rfl, hr⟩ := ho.rd' (byte_append hb (tpart_byte s (by omega))) (by rw [List.length_append]; omega)
    exact ⟨a', _, c', rfl, hr, hbel⟩
end Go.Proofs.YtbaggkfgnjenoacDoor
/-
  Rows of records as plain data, and in memory.
-/
namespace Go.Proofs.YtbaggkfgnjenoacDoor
open Go.RowKit
set_option linter.unusedVariables false
abbrev RC := Int × ByteArray × ByteArray × ByteArray × ByteArray
def rc0 : RC := (0, ⟨#[]⟩, ⟨#[]⟩, ⟨#[]⟩, ⟨#[]⟩)
def rcAt (l : List RC) (i : Nat) : RC := l[i]?.getD rc0
theorem rcAt_mem {l : List RC} {i : Nat} (h : i < l.length) : rcAt l i ∈ l := by simp [rcAt, h]
/-- The cells of a row. -/
def rccs : List RC → List Value
  | [] => []
  | p :: ps => .int .i64 p.1 :: .string p.2.1 :: .string p.2.2.1 :: .string p.2.2.2.1 :: .string p.2.2.2.2 :: rccs ps
theorem rccs_length (l : List RC) : (rccs l).length = l.length * 5 := by
  induction l with
  | nil => rfl
  | cons p ps ih => simp [rccs, ih]; omega
theorem rccs_append (l r : List RC) : rccs (l ++ r) = rccs l ++ rccs r := by
  induction l with
  | nil => rfl
  | cons p ps ih => simp only [rccs, List.cons_append, ih]
theorem rccs_take (l : List RC) : ∀ k, rccs (l.take k) = (rccs l).take (k * 5) := by
  induction l with
  | nil => intro k; simp [rccs]
  | cons p ps ih =>
    intro k
    cases k with
    | zero => rfl
    | succ k =>
      rw [show (k + 1) * 5 = k * 5 + 5 by omega]
      simp only [List.take_succ_cons, rccs, ih]
theorem rccs_at (l : List RC) : ∀ i, i < l.length → (rccs l)[i * 5]? = some (.int .i64 (rcAt l i).1) ∧ (rccs l)[i * 5 + 1]? = some (.string (rcAt l i).2.1) ∧ (rccs l)[i * 5 + 2]? = some (.string (rcAt l i).2.2.1) ∧ (rccs l)[i * 5 + 3]? = some (.string (rcAt l i).2.2.2.1) ∧ (rccs l)[i * 5 + 4]? = some (.string (rcAt l i).2.2.2.2) := by
  induction l with
  | nil => intro i h; exact absurd h (Nat.not_lt_zero _)
  | cons p ps ih =>
    intro i h
    cases i with
    | zero => exact ⟨rfl, rfl, rfl, rfl, rfl⟩
    | succ i =>
      have := ih i (by simpa using h)
      rw [show (i + 1) * 5 = i * 5 + 5 by omega, show i * 5 + 5 + 1 = i * 5 + 1 + 5 by omega, show i * 5 + 5 + 2 = i * 5 + 2 + 5 by omega, show i * 5 + 5 + 3 = i * 5 + 3 + 5 by omega, show i * 5 + 5 + 4 = i * 5 + 4 + 5 by omega]
      exact this
theorem rccs_set (l : List RC) (p : RC) : ∀ j, j < l.length → rccs (l.set j p) = ((((((rccs l).set (j * 5) (.int .i64 p.1)).set (j * 5 + 1) (.string p.2.1)).set (j * 5 + 2) (.string p.2.2.1)).set (j * 5 + 3) (.string p.2.2.2.1)).set (j * 5 + 4) (.string p.2.2.2.2)) := by
  induction l with
  | nil => intro j h; exact absurd h (Nat.not_lt_zero _)
  | cons q l ih =>
    intro i h
    cases i with
    | zero => rfl
    | succ i =>
      have := ih i (by simpa using h)
      rw [show (i + 1) * 5 = i * 5 + 5 by omega, show i * 5 + 5 + 1 = i * 5 + 1 + 5 by omega, show i * 5 + 5 + 2 = i * 5 + 2 + 5 by omega, show i * 5 + 5 + 3 = i * 5 + 3 + 5 by omega, show i * 5 + 5 + 4 = i * 5 + 4 + 5 by omega]
      show Value.int .i64 q.1 :: Value.string q.2.1 :: Value.string q.2.2.1 :: Value.string q.2.2.2.1 :: Value.string q.2.2.2.2 :: rccs (l.set i p) = _
      rw [this]
      rfl
theorem rccs_one (l : List RC) : ∀ u ∈ rccs l, u.oneCell' = true := by
  induction l with
  | nil => intro u hu; cases hu
  | cons p ps ih =>
    intro u hu
    simp only [rccs, List.mem_cons] at hu
    rcases hu with rfl | rfl | rfl | rfl | rfl | hu
    · rfl
    · rfl
    · rfl
    · rfl
    · rfl
    · exact ih u hu
/-- The slice value v leads to the row l. -/
def rcR (w : World) (S : Nat → Prop) (v : Value) (l : List RC) : Prop := Rw w S v l.length (rccs l)
theorem rcR.to {w w' : World} {S R : Nat → Prop} {v : Value} {l : List RC} (h : rcR w S v l) (ho : Only R w w') (hd : ∀ b, S b → b < w.heap.size → ¬ R b) : rcR w' S v l := Rw.to h ho hd
theorem rcR.below {w w' : World} {S : Nat → Prop} {v : Value} {l : List RC} (h : rcR w S v l) (hb : Below w.heap.size w w') : rcR w' S v l := Rw.to h (only_of_below hb (fun _ => False)) (fun _ _ _ h => h)
theorem rcR.mono {w : World} {S R : Nat → Prop} {v : Value} {l : List RC} (h : rcR w S v l) (hd : ∀ b, S b → b < w.heap.size → R b) : rcR w R v l := Rw.mono h hd
theorem rcR.len {w : World} {S : Nat → Prop} {a : Option Addr} {n c : Nat} {l : List RC} (h : rcR w S (.slice a n c) l) : n = l.length ∧ n ≤ c ∧ c ≤ 9223372036854775807 := Rw.len h
theorem rcR.at {w : World} {S : Nat → Prop} {a : Option Addr} {n c : Nat} {l : List RC} (h : rcR w S (.slice a n c) l) (hp : 0 < n) : ∃ b off, a = some ⟨b, off, none⟩ ∧ S b ∧ b < w.heap.size ∧
    ∀ i, i < n → w.cell? ⟨b, off + i * 5, none⟩ = some (.int .i64 (rcAt l i).1) ∧ w.cell? ⟨b, off + i * 5 + 1, none⟩ = some (.string (rcAt l i).2.1) ∧ w.cell? ⟨b, off + i * 5 + 2, none⟩ = some (.string (rcAt l i).2.2.1) ∧ w.cell? ⟨b, off + i * 5 + 3, none⟩ = some (.string (rcAt l i).2.2.2.1) ∧ w.cell? ⟨b, off + i * 5 + 4, none⟩ = some (.string (rcAt l i).2.2.2.2) := by
  obtain ⟨b, off, h1, h2, h3, h4⟩ := Rw.at h hp
  refine ⟨b, off, h1, h2, h3, fun i hi => ?_⟩
  have hn := h.len.1
  obtain ⟨k0, k1, k2, k3, k4⟩ := rccs_at l i (by omega)
  exact ⟨h4 _ _ k0, by rw [Nat.add_assoc]; exact h4 _ _ k1, by rw [Nat.add_assoc]; exact h4 _ _ k2, by rw [Nat.add_assoc]; exact h4 _ _ k3, by rw [Nat.add_assoc]; exact h4 _ _ k4⟩
theorem rcr_nil (w : World) (S : Nat → Prop) : rcR w S (.slice none 0 0) [] := rw_nil w S
end Go.Proofs.YtbaggkfgnjenoacDoor
/-
  What the program's GetVar answers, for every slice of bytes and every place; it changes nothing.
-/
namespace Go.Proofs.YtbaggkfgnjenoacDoor
open Go.RowKit

theorem mul_bounds (x u : Int) (h0 : 0 ≤ x) (h1 : x ≤ 127) (hu : 0 ≤ u) : 0 ≤ x * u ∧ x * u ≤ 127 * u :=
  ⟨Int.mul_nonneg h0 hu, Int.mul_le_mul_of_nonneg_right h1 hu⟩

theorem gv_neg (zs : List Int) (p : Int) (h : p < 0) : gv zs p = (0, -1) := by unfold gv; rw [if_pos h]
theorem gv_nat (zs : List Int) (k : Nat) : gv zs (k : Int) = gvGo 6 zs k 0 1 := by unfold gv; rw [if_neg (by omega), Int.toNat_natCast]

set_option maxHeartbeats 800000 in
theorem implGetVar_any (a : Option Addr) (n c : Nat) (zs : List Int) (p : Int) (w : World) (h : Rd w a n c zs) (hp : p ≤ 9223372036854775807) :
    Calls Tryd.prog 62 #[.slice a n c, .int .i64 p] w fun e w' => e = .returned (.tuple #[.int .i64 (gv zs p).1, .int .i64 (gv zs p).2]) ∧ w = w' := by
  obtain ⟨hn0, hc, hm, hnm, hb, hcell⟩ := h
  have HN : Hid (n = zs.length) := hn0
  clear hn0
  by_cases hneg : p < 0
  · have HG : Hid (gv zs p = (0, -1)) := gv_neg zs p hneg
    go_enter Tryd.func62, Tryd.ntmps62
    go_wp2
    go_ret2
    exact ⟨by rw [HG.out]; rfl, rfl⟩
  · obtain ⟨k0, rfl⟩ := Int.eq_ofNat_of_zero_le (by omega : 0 ≤ p)
    go_enter Tryd.func62, Tryd.ntmps62
    go_wp2
    go_loop [1, 6, 7] (fun i s t => ∃ (f k : Nat) (r u : Int), i = .int .i64 k ∧ s = .int .i64 r ∧ t = .int .i64 u ∧ f ≤ 6 ∧ k ≤ 9223372036854775807 ∧ u = uOf f ∧ 0 ≤ r ∧ r < u ∧ gvGo f zs k r u = gv zs k0) (fun i _ _ => n - (intOf i).toNat)
    case atStart => exact ⟨6, k0, 0, 1, rfl, rfl, rfl, by omega, by omega, rfl, by omega, by omega, by rw [gv_nat]⟩
    case round =>
      obtain ⟨f, k, r, u, rfl, rfl, rfl, hf6, hkm, hu, hr0, hru, hgv⟩ := hrel
      have HU : Hid (u = uOf f) := hu
      have HG : Hid (gvGo f zs k r u = gv zs k0) := hgv
      clear hu hgv
      by_cases hlt : k < n
      · obtain ⟨b, off, ha, hbw, hcell⟩ := hcell (by omega)
        have hck := hcell k hlt
        have hbk := (hb k).1
        have hbk2 := (hb k).2
        have HK : Hid (k < zs.length) := by show k < zs.length; rw [← HN.out]; exact hlt
        have hlt' : (k : Int) < (n : Int) := by omega
        clear hcell hb
        rw [ha]
        cases f with
        | zero =>
          have hu' : 1099511627775 < u := by rw [HU.out]; decide
          have HR : Hid (gv zs k0 = (0, -1)) := by show gv zs k0 = (0, -1); rw [← HG.out]; rfl
          go_wp2
          go_ret2
          exact ⟨by rw [HR.out]; rfl, rfl⟩
        | succ f =>
          have hu1 : 1 ≤ u := by rw [HU.out]; exact (uOf_le (f + 1) (by omega)).1
          have hu2 : u ≤ 34359738368 := by rw [HU.out]; exact (uOf_le (f + 1) (by omega)).2
          have HU2 : Hid (u * 128 = uOf f) := by show u * 128 = uOf f; rw [HU.out]; exact uOf_next f (by omega)
          by_cases hd : 128 ≤ zs[k]?.getD 0
          · have HG2 : Hid (gvGo f zs (k + 1) (r + (zs[k]?.getD 0 - 128) * u) (u * 128) = gv zs k0) := by
              show gvGo f zs (k + 1) (r + (zs[k]?.getD 0 - 128) * u) (u * 128) = gv zs k0
              rw [← HG.out, gvGo_more f zs k r u HK.out hd]
            generalize zs[k]?.getD 0 = d at *
            obtain ⟨m0, m1⟩ := mul_bounds (d - 128) u (by omega) (by omega) (by omega)
            go_wp2
            go_round
            case rel => exact ⟨f, k + 1, r + (d - 128) * u, u * 128, by go_num, rfl, rfl, by omega, by omega, HU2.out, by omega, by omega, HG2.out⟩
            case measure => simp [intOf]; omega
          · by_cases hbad : 1099511627775 < r + zs[k]?.getD 0 * u
            · have HR : Hid (gv zs k0 = (0, -1)) := by
                show gv zs k0 = (0, -1)
                rw [← HG.out]; exact gvGo_bad f zs k r u HK.out (by omega) (.inl hbad)
              generalize zs[k]?.getD 0 = d at *
              obtain ⟨m0, m1⟩ := mul_bounds d u (by omega) (by omega) (by omega)
              go_wp2
              go_ret2
              exact ⟨by rw [HR.out]; rfl, rfl⟩
            · by_cases hz : zs[k]?.getD 0 = 0
              · by_cases hu3 : 1 < u
                · have HR : Hid (gv zs k0 = (0, -1)) := by
                    show gv zs k0 = (0, -1)
                    rw [← HG.out]; exact gvGo_bad f zs k r u HK.out (by omega) (.inr ⟨hz, hu3⟩)
                  rw [hz] at hck hbad
                  clear hz hbk hbk2 hd
                  go_wp2
                  go_ret2
                  exact ⟨by rw [HR.out]; rfl, rfl⟩
                · have HR : Hid (gv zs k0 = (r + 0 * u, (k : Int) + 1)) := by
                    show gv zs k0 = (r + 0 * u, (k : Int) + 1)
                    rw [← HG.out, gvGo_good f zs k r u HK.out (by omega) (by omega), hz]
                  rw [hz] at hck hbad
                  clear hz hbk hbk2 hd
                  go_wp2
                  go_ret2
                  exact ⟨by rw [HR.out]; simp, rfl⟩
              · have HR : Hid (gv zs k0 = (r + zs[k]?.getD 0 * u, (k : Int) + 1)) := by
                  show gv zs k0 = (r + zs[k]?.getD 0 * u, (k : Int) + 1)
                  rw [← HG.out, gvGo_good f zs k r u HK.out (by omega) (by omega)]
                generalize zs[k]?.getD 0 = d at *
                have hz' : (d == 0) = false := by simp [hz]
                obtain ⟨m0, m1⟩ := mul_bounds d u (by omega) (by omega) (by omega)
                clear hz
                go_wp2
                go_ret2
                exact ⟨by rw [HR.out]; rfl, rfl⟩
      · have HR : Hid (gv zs k0 = (0, -1)) := by
          show gv zs k0 = (0, -1)
          rw [← HG.out]; exact gvGo_end f zs k r u (by rw [← HN.out]; omega)
        have hlt' : ¬ (k : Int) < (n : Int) := by omega
        go_wp2
        go_ret2
        exact ⟨by rw [HR.out]; rfl, rfl⟩
end Go.Proofs.YtbaggkfgnjenoacDoor
/-
  What both GetTexts answer, for every slice of bytes and every place.
-/
namespace Go.Proofs.YtbaggkfgnjenoacDoor
open Go.RowKit

theorem gvGo_range (f : Nat) (zs : List Int) (hb : ∀ i : Nat, 0 ≤ zs[i]?.getD 0 ∧ zs[i]?.getD 0 ≤ 255) : ∀ (k : Nat) (n u : Int), 0 ≤ n → 0 ≤ u →
    gvGo f zs k n u = (0, -1) ∨ ∃ j : Nat, (gvGo f zs k n u).2 = j ∧ 1 ≤ j ∧ j ≤ zs.length ∧ 0 ≤ (gvGo f zs k n u).1 ∧ (gvGo f zs k n u).1 ≤ 1099511627775 := by
  induction f with
  | zero => intro k n u _ _; exact .inl rfl
  | succ f ih =>
    intro k n u hn hu
    by_cases hk : k < zs.length
    · by_cases hd : 128 ≤ zs[k]?.getD 0
      · rw [gvGo_more f zs k n u hk hd]
        have := Int.mul_nonneg (show 0 ≤ zs[k]?.getD 0 - 128 by omega) hu
        exact ih (k + 1) _ _ (by omega) (by omega)
      · by_cases hbad : 1099511627775 < n + zs[k]?.getD 0 * u ∨ (zs[k]?.getD 0 = 0 ∧ 1 < u)
        · exact .inl (gvGo_bad f zs k n u hk (by omega) hbad)
        · rw [gvGo_good f zs k n u hk (by omega) hbad]
          have := Int.mul_nonneg (hb k).1 hu
          exact .inr ⟨k + 1, by simp, by omega, by omega, by show 0 ≤ n + zs[k]?.getD 0 * u; omega, by show n + zs[k]?.getD 0 * u ≤ 1099511627775; omega⟩
    · exact .inl (gvGo_end (f + 1) zs k n u (by omega))
theorem gv_range (zs : List Int) (hb : ∀ i : Nat, 0 ≤ zs[i]?.getD 0 ∧ zs[i]?.getD 0 ≤ 255) (p : Int) :
    gv zs p = (0, -1) ∨ ∃ j : Nat, (gv zs p).2 = j ∧ 1 ≤ j ∧ j ≤ zs.length ∧ 0 ≤ (gv zs p).1 ∧ (gv zs p).1 ≤ 1099511627775 := by
  unfold gv
  split
  · exact .inl rfl
  · exact gvGo_range 6 zs hb _ 0 1 (by omega) (by omega)

theorem rd_empty (w : World) (a : Option Addr) : Rd w a 0 0 [] := ⟨rfl, Nat.le_refl _, by omega, by omega, by simp, fun h => by omega⟩
/-- What GetText answers. -/
def gt (zs : List Int) (p : Int) : List Int × Int := if (gv zs p).2 < 0 ∨ (zs.length : Int) - (gv zs p).2 < (gv zs p).1 then ([], -1) else ((zs.drop (gv zs p).2.toNat).take (gv zs p).1.toNat, (gv zs p).2 + (gv zs p).1)

/-- A slice of a slice, read. -/
theorem Rd.slice {w : World} {b off n c : Nat} {zs : List Int} (h : Rd w (some ⟨b, off, none⟩) n c zs) (lo m : Nat) (hm : lo + m ≤ n) (k : Nat) (hk : m ≤ k) (hk2 : k ≤ c) : Rd w (some ⟨b, off + lo, none⟩) m k ((zs.drop lo).take m) := by
  obtain ⟨h1, h2, h3, h30, h4, h5⟩ := h
  refine ⟨by simp; omega, hk, by omega, by omega, fun i => ?_, fun hp => ⟨b, off + lo, rfl, ?_, fun i hi => ?_⟩⟩
  · by_cases hi : i < m
    · rw [List.getElem?_take_of_lt hi, List.getElem?_drop]; exact h4 (lo + i)
    · rw [List.getElem?_eq_none (by simp; omega)]; simp
  · obtain ⟨b', off', e, hb, _⟩ := h5 (by omega)
    cases e; exact hb
  · obtain ⟨b', off', e, hb, hc⟩ := h5 (by omega)
    cases e
    rw [List.getElem?_take_of_lt hi, List.getElem?_drop, ← hc (lo + i) (by omega), Nat.add_assoc]

set_option maxHeartbeats 800000 in
set_option maxRecDepth 20000 in
theorem implGetText_any (a : Option Addr) (n c : Nat) (zs : List Int) (p : Int) (w : World) (h : Rd w a n c zs) (hp : p ≤ 9223372036854775807) :
    Calls Tryd.prog 71 #[.slice a n c, .int .i64 p] w fun e w' => e = .returned (.tuple #[.string (strOf (gt zs p).1), .int .i64 (gt zs p).2]) ∧ w = w' := by
  have HN : Hid (n = zs.length) := h.1
  have hnm : n ≤ 140737488355328 := h.2.2.2.1
  have hcm : c ≤ 9223372036854775807 := h.2.2.1
  have hnc : n ≤ c := h.2.1
  have HC := implGetVar_any a n c zs p w h hp
  have hrg := gv_range zs h.2.2.2.2.1 p
  have HT : Hid (gt zs p = if (gv zs p).2 < 0 ∨ (zs.length : Int) - (gv zs p).2 < (gv zs p).1 then ([], -1) else ((zs.drop (gv zs p).2.toNat).take (gv zs p).1.toNat, (gv zs p).2 + (gv zs p).1)) := rfl
  generalize gv zs p = g at *
  obtain ⟨s, f⟩ := g
  have HC' := hid HC
  clear HC
  rcases hrg with hg | ⟨j, hj, hj1, hj2, hs0, hs1⟩
  · cases hg
    have HR : Hid (gt zs p = ([], -1)) := by show gt zs p = ([], -1); rw [HT.out]; simp
    clear HT
    have HD := hid h
    clear h
    go_enter Tryd.func71, Tryd.ntmps71
    go_wp2_with (go_at_call 62; refine HC'.out.mono ?_; rintro e w' ⟨rfl, rfl⟩)
    go_ret2
    exact ⟨by rw [HR.out]; rfl, rfl⟩
  · simp only at hj hs0 hs1
    subst hj
    have hjn : j ≤ n := by rw [HN.out]; exact hj2
    clear hj2
    obtain ⟨b, off, ha, hbw, _⟩ := h.2.2.2.2.2 (by omega)
    subst ha
    by_cases hlong : (n : Int) - (j : Int) < s
    · have HR : Hid (gt zs p = ([], -1)) := by
        show gt zs p = ([], -1)
        rw [HT.out]
        exact if_pos (.inr (by rw [← HN.out]; exact hlong))
      clear HT
      have HD := hid h
      clear h
      go_enter Tryd.func71, Tryd.ntmps71
      go_wp2_with (go_at_call 62; refine HC'.out.mono ?_; rintro e w' ⟨rfl, rfl⟩)
      go_ret2
      exact ⟨by rw [HR.out]; rfl, rfl⟩
    · obtain ⟨m, rfl⟩ := Int.eq_ofNat_of_zero_le hs0
      have HR : Hid (gt zs p = ((zs.drop j).take m, (j : Int) + (m : Int))) := by
        show gt zs p = ((zs.drop j).take m, (j : Int) + (m : Int))
        rw [HT.out]
        rw [if_neg (by rw [← HN.out]; simp; omega)]
        simp
      clear HT
      by_cases hcj : c = j
      · have hm0 : m = 0 := by omega
        subst hm0
        subst hcj
        have hst := run_str (rd_empty w (some ⟨b, off, none⟩))
        have HD := hid h
        clear h
        go_enter Tryd.func71, Tryd.ntmps71
        go_wp2_with (go_at_call 62; refine (HC'.out).mono ?_; rintro e w' ⟨rfl, rfl⟩)
        go_ret2
        exact ⟨by rw [HR.out]; simp, rfl⟩
      · have hst := run_str (h.slice j m (by omega) (c - j) (by omega) (by omega))
        have hj0 : ¬ j = 0 := by omega
        have HD := hid h
        clear h
        go_enter Tryd.func71, Tryd.ntmps71
        go_wp2_with (go_at_call 62; refine HC'.out.mono ?_; rintro e w' ⟨rfl, rfl⟩)
        go_ret2
        exact ⟨by rw [HR.out]; rfl, rfl⟩
end Go.Proofs.YtbaggkfgnjenoacDoor
/-
  Plain mathematics: a number that was put is got again, and so is a text.
-/
namespace Go.Proofs.YtbaggkfgnjenoacDoor

theorem encF_down (f : Nat) : ∀ n : Int, n < bnd f → encF (f + 1) n = encF f n := by
  induction f with
  | zero => intro n h; rw [encF_small _ n (by simpa [bnd] using h), encF_small _ n (by simpa [bnd] using h)]
  | succ f ih =>
    intro n h
    by_cases hn : 128 ≤ n
    · rw [encF_big _ n hn, encF_big _ n hn, ih (n / 128) (bnd_down f n h)]
    · rw [encF_small _ n (by omega), encF_small _ n (by omega)]
theorem at_here (pre : List Int) (z : Int) (r : List Int) : (pre ++ z :: r)[pre.length]?.getD 0 = z := by simp
theorem not_bad {r q u : Int} (hs : r + q * u ≤ 1099511627775) (hz : q = 0 → ¬ 1 < u) : ¬ (1099511627775 < r + q * u ∨ (q = 0 ∧ 1 < u)) := by
  rintro (h | ⟨h, h'⟩)
  · omega
  · exact hz h h'
theorem gvGo_enc (f' : Nat) : ∀ (f : Nat) (pre rest : List Int) (q r u : Int), 0 ≤ q → q < bnd f' → f' < f → r + q * u ≤ 1099511627775 → (q = 0 → ¬ 1 < u) →
    gvGo f (pre ++ encF f' q ++ rest) pre.length r u = (r + q * u, ((pre.length + (encF f' q).length : Nat) : Int)) := by
  induction f' with
  | zero =>
    intro f pre rest q r u h0 hq hf hs hz
    obtain ⟨g, rfl⟩ : ∃ g, f = g + 1 := ⟨f - 1, by omega⟩
    have e : pre ++ encF 0 q ++ rest = pre ++ q :: rest := by simp [encF]
    have hq' : q < 128 := hq
    rw [e, gvGo_good g _ pre.length r u (by simp) (by rw [at_here]; exact hq') (by rw [at_here]; exact not_bad hs hz), at_here]
    simp [encF]
  | succ f' ih =>
    intro f pre rest q r u h0 hq hf hs hz
    obtain ⟨g, rfl⟩ : ∃ g, f = g + 1 := ⟨f - 1, by omega⟩
    by_cases hb : 128 ≤ q
    · rw [encF_big f' q hb]
      have e : pre ++ (128 + q % 128) :: encF f' (q / 128) ++ rest = pre ++ (128 + q % 128) :: (encF f' (q / 128) ++ rest) := by simp
      have e2 : pre ++ (128 + q % 128) :: encF f' (q / 128) ++ rest = (pre ++ [128 + q % 128]) ++ encF f' (q / 128) ++ rest := by simp
      have hm : q * u = q % 128 * u + q / 128 * (u * 128) := by
        have : q = q % 128 + 128 * (q / 128) := by omega
        rw [Int.mul_comm u 128, ← Int.mul_assoc, ← Int.add_mul]
        congr 1
        omega
      have hk : pre.length < (pre ++ (128 + q % 128) :: (encF f' (q / 128) ++ rest)).length := by simp
      rw [e, gvGo_more g _ pre.length r u hk (by rw [at_here]; omega), at_here, ← e, e2]
      have hl : pre.length + 1 = (pre ++ [128 + q % 128]).length := by simp
      rw [hl, ih g (pre ++ [128 + q % 128]) rest (q / 128) (r + (128 + q % 128 - 128) * u) (u * 128) (by omega) (bnd_down f' q hq) (by omega) (by
        rw [show 128 + q % 128 - 128 = q % 128 from by omega]; omega) (by intro h; omega)]
      rw [show 128 + q % 128 - 128 = q % 128 from by omega]
      simp only [Prod.mk.injEq]
      constructor
      · omega
      · simp; omega
    · have e : pre ++ encF (f' + 1) q ++ rest = pre ++ q :: rest := by rw [encF_small _ q (by omega)]; simp
      rw [e, gvGo_good g _ pre.length r u (by simp) (by rw [at_here]; omega) (by rw [at_here]; exact not_bad hs hz), at_here, encF_small _ q (by omega)]
      simp
/-- What is put is got. -/
theorem gv_enc (pre rest : List Int) (n : Int) (h0 : 0 ≤ n) (h1 : n ≤ 1099511627775) : gv (pre ++ enc n ++ rest) (pre.length : Int) = (n, ((pre.length + (enc n).length : Nat) : Int)) := by
  have e : enc n = encF 5 n := encF_down 5 n (by simp [bnd]; omega)
  rw [gv_nat, e, gvGo_enc 5 6 pre rest n 0 1 h0 (by simp [bnd]; omega) (by omega) (by omega) (by omega)]
  simp
theorem gt_enc (pre zs : List Int) (h : zs.length ≤ 1048576) : gt (pre ++ enc (zs.length : Int) ++ zs) (pre.length : Int) = (zs, ((pre ++ enc (zs.length : Int) ++ zs).length : Int)) := by
  unfold gt
  rw [gv_enc pre zs (zs.length : Int) (by omega) (by omega)]
  simp only
  rw [if_neg (by simp only [List.length_append]; omega)]
  simp only [Int.toNat_natCast, Prod.mk.injEq]
  refine ⟨?_, ?_⟩
  · have : pre.length + (enc (zs.length : Int)).length = (pre ++ enc (zs.length : Int)).length := by simp
    rw [this, List.drop_left, List.take_length]
  · simp only [List.length_append]; omega
end Go.Proofs.YtbaggkfgnjenoacDoor
/-
  Plain mathematics: what is read of a record's text on both sides, and that it is what was written.
-/
namespace Go.Proofs.YtbaggkfgnjenoacDoor
set_option linter.unusedVariables false
theorem gvGo_past (f : Nat) (zs : List Int) : ∀ (k : Nat) (n u : Int), gvGo f zs k n u = (0, -1) ∨ (k : Int) < (gvGo f zs k n u).2 := by
  induction f with
  | zero => intro k n u; exact .inl rfl
  | succ f ih =>
    intro k n u
    by_cases hk : k < zs.length
    · by_cases hd : 128 ≤ zs[k]?.getD 0
      · rw [gvGo_more f zs k n u hk hd]
        rcases ih (k + 1) (n + (zs[k]?.getD 0 - 128) * u) (u * 128) with h | h
        · exact .inl h
        · exact .inr (by omega)
      · by_cases hbad : 1099511627775 < n + zs[k]?.getD 0 * u ∨ (zs[k]?.getD 0 = 0 ∧ 1 < u)
        · exact .inl (gvGo_bad f zs k n u hk (by omega) hbad)
        · rw [gvGo_good f zs k n u hk (by omega) hbad]
          exact .inr (by show (k : Int) < (k : Int) + 1; omega)
    · exact .inl (gvGo_end (f + 1) zs k n u (by omega))
theorem gt_step (zs : List Int) (hb : ∀ i : Nat, 0 ≤ zs[i]?.getD 0 ∧ zs[i]?.getD 0 ≤ 255) (p : Int) (h : ¬ (gt zs p).2 < 0) : p < (gt zs p).2 ∧ (gt zs p).2 ≤ zs.length ∧ (gt zs p).1.length ≤ zs.length := by
  have hr := gv_range zs hb p
  have hp : gv zs p = (0, -1) ∨ p < (gv zs p).2 := by
    unfold gv
    split
    · exact .inl rfl
    · rcases gvGo_past 6 zs p.toNat 0 1 with h | h
      · exact .inl h
      · exact .inr (by omega)
  unfold gt at h ⊢
  by_cases hc : (gv zs p).2 < 0 ∨ (zs.length : Int) - (gv zs p).2 < (gv zs p).1
  · rw [if_pos hc] at h
    exact absurd (show ((([], -1) : List Int × Int).2 : Int) < 0 by decide) h
  · rw [if_neg hc]
    rcases hr with e | ⟨j, e1, e2, e3, e4, e5⟩
    · rw [e] at hc
      exact absurd (.inl (show ((0, -1) : Int × Int).2 < 0 by decide)) hc
    · rcases hp with e | e
      · rw [e] at hc
        exact absurd (.inl (show ((0, -1) : Int × Int).2 < 0 by decide)) hc
      · refine ⟨?_, ?_, ?_⟩
        · show p < (gv zs p).2 + (gv zs p).1
          omega
        · show (gv zs p).2 + (gv zs p).1 ≤ (zs.length : Int)
          omega
        · show (List.take _ (List.drop _ zs)).length ≤ zs.length
          rw [List.length_take, List.length_drop]
          omega
theorem gt_low (zs : List Int) (hb : ∀ i : Nat, 0 ≤ zs[i]?.getD 0 ∧ zs[i]?.getD 0 ≤ 255) (p : Int) : -1 ≤ (gt zs p).2 := by
  have hr := gv_range zs hb p
  unfold gt
  split
  · decide
  · rename_i h
    rcases hr with e | ⟨j, e1, e2, e3, e4, e5⟩
    · rw [e] at h
      exact absurd (.inl (show ((0, -1) : Int × Int).2 < 0 by decide)) h
    · show (-1 : Int) ≤ (gv zs p).2 + (gv zs p).1
      omega
theorem gt_part (pre : List Int) (s : ByteArray) (rest : List Int) (h : s.size ≤ 1048576) : gt (pre ++ tpart s ++ rest) (pre.length : Int) = (bytesOf s, ((pre.length + (tpart s).length : Nat) : Int)) := by
  have hl := bytesOf_len s
  have hg := gv_enc pre (bytesOf s ++ rest) (s.size : Int) (by omega) (by omega)
  have e : pre ++ tpart s ++ rest = pre ++ enc (s.size : Int) ++ (bytesOf s ++ rest) := by simp [tpart]
  have hlen : (pre ++ enc (s.size : Int) ++ (bytesOf s ++ rest)).length = pre.length + (enc (s.size : Int)).length + (s.size + rest.length) := by simp only [List.length_append, hl]
  rw [e, gt, hg]
  simp only
  rw [if_neg (by rw [hlen]; omega)]
  have hd : ((pre ++ enc (s.size : Int) ++ (bytesOf s ++ rest)).drop ((pre.length + (enc (s.size : Int)).length : Nat) : Int).toNat) = bytesOf s ++ rest := by
    rw [Int.toNat_natCast, show pre.length + (enc (s.size : Int)).length = (pre ++ enc (s.size : Int)).length by simp, List.drop_left]
  rw [hd, Int.toNat_natCast]
  have ht : (bytesOf s ++ rest).take s.size = bytesOf s := by
    rw [← hl, List.take_left]
  rw [ht]
  simp only [tpart, List.length_append, hl, Prod.mk.injEq, true_and]
  omega
/-- The texts from place p on, f of them at the most. -/
def txF : Nat → List Int → Int → List ByteArray
  | 0, _, _ => []
  | f + 1, zs, p => if p < zs.length then (if (gt zs p).2 < 0 then [] else strOf (gt zs p).1 :: txF f zs (gt zs p).2) else []
theorem txF_end (f : Nat) (zs : List Int) (p : Int) (h : ¬ p < zs.length) : txF f zs p = [] := by
  cases f with
  | zero => rfl
  | succ f => simp only [txF]; rw [if_neg h]
theorem txF_stop (f : Nat) (zs : List Int) (p : Int) (h : (gt zs p).2 < 0) : txF f zs p = [] := by
  cases f with
  | zero => rfl
  | succ f =>
    simp only [txF]
    by_cases hp : p < zs.length
    · rw [if_pos hp, if_pos h]
    · rw [if_neg hp]
theorem txF_more (f : Nat) (zs : List Int) (p : Int) (h1 : p < zs.length) (h2 : ¬ (gt zs p).2 < 0) : txF (f + 1) zs p = strOf (gt zs p).1 :: txF f zs (gt zs p).2 := by
  simp only [txF]; rw [if_pos h1, if_neg h2]
theorem strB (s : ByteArray) : strOf (bytesOf s) = s := by
  apply ByteArray.ext
  simp only [strOf, bytesOf, List.map_map]
  have : (List.map ((fun z : Int => UInt8.ofNat z.toNat) ∘ fun b : UInt8 => ((b.toNat : Nat) : Int)) s.data.toList) = s.data.toList := by
    conv => rhs; rw [← List.map_id s.data.toList]
    refine List.map_congr_left fun b _ => ?_
    simp
  rw [this]
theorem bytS (o : List Int) (hb : ∀ z ∈ o, 0 ≤ z ∧ z ≤ 255) : bytesOf (strOf o) = o := by
  unfold bytesOf strOf
  simp only [List.map_map]
  have : ∀ z ∈ o, ((fun b : UInt8 => (b.toNat : Int)) ∘ fun z : Int => UInt8.ofNat z.toNat) z = z := by
    intro z hz
    have := hb z hz
    simp only [Function.comp, UInt8.toNat_ofNat']
    omega
  rw [List.map_congr_left this]
  simp
theorem txF_parts (ss : List ByteArray) : ∀ (pre : List Int) (f : Nat), ss.length ≤ f → (∀ s ∈ ss, s.size ≤ 1048576) → txF f (pre ++ tparts ss) (pre.length : Int) = ss := by
  induction ss with
  | nil =>
    intro pre f _ _
    exact txF_end _ _ _ (by simp [tparts])
  | cons s ss ih =>
    intro pre f hf hs
    cases f with
    | zero => simp at hf
    | succ f =>
      have h1 := hs s (by simp)
      have hg := gt_part pre s (tparts ss) h1
      have e : pre ++ tparts (s :: ss) = pre ++ tpart s ++ tparts ss := by simp [tparts]
      have hpl : 1 ≤ (tpart s).length := by have := enc_len (s.size : Int); simp only [tpart, List.length_append]; omega
      rw [e, txF_more f _ _ (by simp only [List.length_append]; omega) (by rw [hg]; simp only; omega), hg]
      simp only
      rw [strB]
      congr 1
      have := ih (pre ++ tpart s) f (by simpa using hf) (fun x hx => hs x (by simp [hx]))
      rw [List.length_append] at this
      exact this
/-- The record that the program takes a mark and texts for. -/
def rcO (m : Int) (ss : List ByteArray) : RC :=
  if m = 119 ∧ ss.length = 2 then (1, ss[0]?.getD ⟨#[]⟩, ss[1]?.getD ⟨#[]⟩, ⟨#[]⟩, ⟨#[]⟩)
  else if m = 103 ∧ ss.length = 1 then (2, ss[0]?.getD ⟨#[]⟩, ⟨#[]⟩, ⟨#[]⟩, ⟨#[]⟩)
  else if m = 115 ∧ ss.length = 2 then (3, ⟨#[]⟩, ⟨#[]⟩, ss[0]?.getD ⟨#[]⟩, ss[1]?.getD ⟨#[]⟩)
  else if m = 120 ∧ ss.length = 2 then (4, ⟨#[]⟩, ⟨#[]⟩, ss[0]?.getD ⟨#[]⟩, ss[1]?.getD ⟨#[]⟩)
  else rc0
def kOf (m : Int) : Int := if m = 119 then 1 else if m = 103 then 2 else if m = 115 then 3 else if m = 120 then 4 else 0
/-- The record that the specification takes bytes for. -/
def rcS (zs : List Int) : RC :=
  if 2 < kOf (zs[0]?.getD 0) then (kOf (zs[0]?.getD 0), ⟨#[]⟩, ⟨#[]⟩, strOf (gt zs 1).1, strOf (gt zs (gt zs 1).2).1)
  else (kOf (zs[0]?.getD 0), strOf (gt zs 1).1, if kOf (zs[0]?.getD 0) = 1 then strOf (gt zs (gt zs 1).2).1 else ⟨#[]⟩, ⟨#[]⟩, ⟨#[]⟩)
def rcI (zs : List Int) : RC := rcO (zs[0]?.getD 0) (txF (zs.length + 1) (zs.drop 1) 0)
def rcTxt (r : RC) : ByteArray := rcTx r.1 r.2.1 r.2.2.1 r.2.2.2.1 r.2.2.2.2
theorem emptyB {s : ByteArray} (h : s.toList = []) : s = ⟨#[]⟩ := by
  rw [ByteArray.toList_eq] at h
  apply ByteArray.ext
  apply Array.ext'
  simpa using h
theorem rcBy_byte {k : Int} {ky vl lo hi : ByteArray} (h : rcOk k ky vl lo hi = true) : ∀ z ∈ rcBy k ky vl lo hi, 0 ≤ z ∧ z ≤ 255 := by
  intro z hz
  rcases List.mem_cons.1 hz with rfl | hz
  · unfold rcMark
    split
    · omega
    · split
      · omega
      · split <;> omega
  · exact tparts_byte _ (fun s hs => by have := rcPs_small h s hs; omega) z hz
/-- A right record is read again, by both. -/
theorem rc_back {k : Int} {ky vl lo hi : ByteArray} (h : rcOk k ky vl lo hi = true) : rcI (rcBy k ky vl lo hi) = (k, ky, vl, lo, hi) ∧ rcS (rcBy k ky vl lo hi) = (k, ky, vl, lo, hi) := by
  have hsm := rcPs_small h
  have hI : txF ((rcBy k ky vl lo hi).length + 1) ((rcBy k ky vl lo hi).drop 1) 0 = rcPs k ky vl lo hi := by
    have hp : ∀ ss : List ByteArray, ss.length ≤ (tparts ss).length := by
      intro ss
      induction ss with
      | nil => simp
      | cons s ss ih =>
        have := enc_len (s.size : Int)
        simp only [tparts, tpart, List.length_append, List.length_cons]
        omega
    have h1 := hp (rcPs k ky vl lo hi)
    have := txF_parts (rcPs k ky vl lo hi) [] ((rcBy k ky vl lo hi).length + 1) (by simp only [rcBy, List.length_cons]; omega) (fun s hs => by have := hsm s hs; omega)
    simpa [rcBy] using this
  have hm : (rcBy k ky vl lo hi)[0]?.getD 0 = rcMark k := rfl
  have g1 : ∀ a rest, a.size ≤ 20 → gt (rcMark k :: (tpart a ++ rest)) 1 = (bytesOf a, ((1 + (tpart a).length : Nat) : Int)) := by
    intro a rest ha
    have := gt_part [rcMark k] a rest (by omega)
    simpa using this
  have g2 : ∀ a b, b.size ≤ 20 → gt (rcMark k :: (tpart a ++ (tpart b ++ []))) ((1 + (tpart a).length : Nat) : Int) = (bytesOf b, ((1 + (tpart a).length + (tpart b).length : Nat) : Int)) := by
    intro a b hb
    have := gt_part (rcMark k :: tpart a) b [] (by omega)
    have e : ((rcMark k :: tpart a).length : Int) = ((1 + (tpart a).length : Nat) : Int) := by rw [List.length_cons, Nat.add_comm]
    rw [e] at this
    rw [show rcMark k :: (tpart a ++ (tpart b ++ [])) = rcMark k :: tpart a ++ tpart b ++ [] by simp, this]
    rw [List.length_cons, Nat.add_comm (tpart a).length 1]
  unfold rcI rcS
  rw [hm, hI]
  rcases rcOk_facts h with ⟨rfl, h1, h2, h3, h4⟩ | ⟨rfl, h1, h3, h4, h5⟩ | ⟨hk, h3, h4, h1, h2⟩
  · obtain rfl := emptyB h3
    obtain rfl := emptyB h4
    have e : rcBy 1 ky vl ⟨#[]⟩ ⟨#[]⟩ = rcMark 1 :: (tpart ky ++ (tpart vl ++ [])) := rfl
    rw [e, g1 ky _ (by omega)]
    simp only
    rw [g2 ky vl (by omega)]
    refine ⟨rfl, ?_⟩
    show (1, strOf (bytesOf ky), strOf (bytesOf vl), _, _) = _
    rw [strB, strB]
  · obtain rfl := emptyB h3
    obtain rfl := emptyB h4
    obtain rfl := emptyB h5
    have e : rcBy 2 ky ⟨#[]⟩ ⟨#[]⟩ ⟨#[]⟩ = rcMark 2 :: (tpart ky ++ []) := rfl
    rw [e, g1 ky _ (by omega)]
    refine ⟨rfl, ?_⟩
    show (2, strOf (bytesOf ky), _, _, _) = _
    rw [strB]
    rfl
  · obtain rfl := emptyB h3
    obtain rfl := emptyB h4
    rcases hk with rfl | rfl
    · have e : rcBy 3 ⟨#[]⟩ ⟨#[]⟩ lo hi = rcMark 3 :: (tpart lo ++ (tpart hi ++ [])) := rfl
      rw [e, g1 lo _ (by omega)]
      simp only
      rw [g2 lo hi (by omega)]
      refine ⟨rfl, ?_⟩
      show (3, _, _, strOf (bytesOf lo), strOf (bytesOf hi)) = _
      rw [strB, strB]
    · have e : rcBy 4 ⟨#[]⟩ ⟨#[]⟩ lo hi = rcMark 4 :: (tpart lo ++ (tpart hi ++ [])) := rfl
      rw [e, g1 lo _ (by omega)]
      simp only
      rw [g2 lo hi (by omega)]
      refine ⟨rfl, ?_⟩
      show (4, _, _, strOf (bytesOf lo), strOf (bytesOf hi)) = _
      rw [strB, strB]
/-- What TextRec answers. -/
def trV (s : ByteArray) : RC × Bool := if s.toList ≠ [] ∧ (rcTxt (rcS (bytesOf s))).toList = s.toList then (rcS (bytesOf s), true) else (rc0, false)
theorem toList_inj {a b : ByteArray} (h : a.toList = b.toList) : a = b := by
  rw [ByteArray.toList_eq, ByteArray.toList_eq] at h
  apply ByteArray.ext
  exact Array.ext' h
/-- What is read is written so, and right. -/
theorem rc_read {r : RC} {s : ByteArray} (hs : s.toList ≠ []) (h : (rcTxt r).toList = s.toList) : rcOk r.1 r.2.1 r.2.2.1 r.2.2.2.1 r.2.2.2.2 = true ∧ rcI (bytesOf s) = r ∧ rcS (bytesOf s) = r := by
  have e := toList_inj h
  unfold rcTxt rcTx at e
  by_cases hok : rcOk r.1 r.2.1 r.2.2.1 r.2.2.2.1 r.2.2.2.2 = true
  · rw [if_pos hok] at e
    rw [← e, bytS _ (rcBy_byte hok)]
    exact ⟨hok, rc_back hok⟩
  · rw [if_neg hok] at e
    refine absurd ?_ hs
    rw [← e, ByteArray.toList_eq]
theorem trV_impl (s : ByteArray) : trV s = if s.toList ≠ [] ∧ (rcTxt (rcI (bytesOf s))).toList = s.toList then (rcI (bytesOf s), true) else (rc0, false) := by
  unfold trV
  by_cases h : s.toList ≠ [] ∧ (rcTxt (rcS (bytesOf s))).toList = s.toList
  · obtain ⟨_, h1, h2⟩ := rc_read h.1 h.2
    rw [if_pos h, if_pos ⟨h.1, by rw [h1]; exact h.2⟩, h1]
  · by_cases k : s.toList ≠ [] ∧ (rcTxt (rcI (bytesOf s))).toList = s.toList
    · obtain ⟨_, h1, h2⟩ := rc_read k.1 k.2
      exact absurd ⟨k.1, by rw [h2]; exact k.2⟩ h
    · rw [if_neg h, if_neg k]
end Go.Proofs.YtbaggkfgnjenoacDoor
/-
  What both Fills answer, for every slice of bytes and every size.
-/
namespace Go.Proofs.YtbaggkfgnjenoacDoor
open Go.RowKit

/-- What Fill answers. -/
def fl (zs : List Int) (m : Int) : Option (List Int) := if (zs.length : Int) ≤ m ∧ m ≤ 4096 then some (zs ++ List.replicate (m - zs.length).toNat 0) else none
theorem fl_bad (zs : List Int) (m : Int) (h : m < zs.length ∨ 4096 < m) : fl zs m = none := by unfold fl; exact if_neg (by omega)
theorem fl_ok (zs : List Int) (k : Nat) (h : zs.length + k ≤ 4096) : fl zs ((zs.length : Int) + (k : Int)) = some (zs ++ List.replicate k 0) := by
  unfold fl
  rw [if_pos (by omega)]
  congr 3
  omega

/-- What fill does to the writer's state. -/
def fillSt (most : Nat) : Option (List Int) → Int → Option (List Int)
  | none, _ => none
  | some zs, m => if (zs.length : Int) ≤ m ∧ m ≤ most then some (zs ++ List.replicate (m - zs.length).toNat 0) else none

theorem rd_zero (w : World) (k : Nat) (hk : k ≤ 1048576) : Rd (w.alloc (.cells (madeCells #[.int .u8 0] k) 5)) (some ⟨w.heap.size, 0, none⟩) k k (List.replicate k 0) := by
  refine ⟨by simp, Nat.le_refl _, by omega, by omega, fun i => ?_, fun _ => ⟨w.heap.size, 0, rfl, by simp, fun i hi => ?_⟩⟩
  · by_cases hi : i < k
    · simp [hi]
    · rw [List.getElem?_eq_none (by simp; omega)]; simp
  · rw [World.cell?_alloc_at (hn := rfl)]
    simp [madeCells, hi, Nat.mod_one]

theorem fillSt_fl (zs : List Int) (m : Int) : fillSt 4096 (addSt 4096 (some []) zs) m = fl zs m := by
  rw [addSt_start]
  by_cases h : zs.length ≤ 4096
  · rw [if_pos h]; rfl
  · rw [if_neg h, fl_bad zs m (by omega)]; rfl

end Go.Proofs.YtbaggkfgnjenoacDoor
/-
  Rows that are appended to, of any element; of strings and of numbers.
-/
namespace Go.Proofs.YtbaggkfgnjenoacDoor
open Go.RowKit
/-- append(dst, src...), and where the new row lies. -/
theorem infoStr' : (Tryd.prog.info? 9).map (fun i => (i.zero, i.size, i.bytes)) = some (some (.string ⟨#[]⟩), 1, 16) := by kernel_rfl
theorem wpList_append_st1 {w : World} {ops : Array Oper} {rest : List Oper} {o : Oper} {a : Act} {Q : Exit → Act → World → Prop} (hgd : o.guard = none) (s x : Operand)
    (ho : o.op = .call { callee := .builtin .append, args := #[s, x], argTypes := #[63, 63] }) (v : Value) (n : Nat) (xs : List Value) (hs : a.eval s = v) (hown : w.ownsRow 0 9 1 v n xs)
    (g : Nat) (z : ByteArray) (hx : a.eval x = .slice (some ⟨g, 0, none⟩) 1 1) (hB : Bk w g 9 [.string z]) (hb : n ≤ 1048576)
    (h : ∀ a' n' c' w', w'.ownsRow 0 9 1 (.slice a' n' c') (n + 1) (xs ++ [.string z]) → w.grownBy w' v.ownBlock → ((Value.slice a' n' c').ownBlock = v.ownBlock ∨ (Value.slice a' n' c').ownBlock = some w.heap.size) → wpList Tryd.prog ops Q rest (a.put o.dst (.slice a' n' c')) w') : wpList Tryd.prog ops Q (o :: rest) a w := by
  obtain ⟨i, hi, hz, hsz, hby⟩ := info_of infoStr'
  refine wpList_append_row_at hgd s x 63 ho 0 9 i _ 1 16 Tryd.underlying63 hi hz hsz hby rfl (by decide) v n xs hs hown (fun _ => True) _ 1 [.string z] hx (hB.rw (Nat.le_refl _) (by omega) (fun h => by omega) _ trivial) rfl
    (by intro u hu; simp at hu; subst hu; rfl) (by unfold maxLen; omega) (by omega) (Nat.zero_le _) ?_
  intro v' w' k1 k2 k3
  obtain ⟨a', c', rfl⟩ := own_shape k1
  exact h a' _ c' w' k1 k2 k3
theorem infoInt' : (Tryd.prog.info? 3).map (fun i => (i.zero, i.size, i.bytes)) = some (some (.int .i64 0), 1, 8) := by kernel_rfl
theorem wpList_append_in1 {w : World} {ops : Array Oper} {rest : List Oper} {o : Oper} {a : Act} {Q : Exit → Act → World → Prop} (hgd : o.guard = none) (s x : Operand)
    (ho : o.op = .call { callee := .builtin .append, args := #[s, x], argTypes := #[61, 61] }) (v : Value) (n : Nat) (xs : List Value) (hs : a.eval s = v) (hown : w.ownsRow 0 3 1 v n xs)
    (g : Nat) (z : Int) (hx : a.eval x = .slice (some ⟨g, 0, none⟩) 1 1) (hB : Bk w g 3 [.int .i64 z]) (hb : n ≤ 1048576)
    (h : ∀ a' n' c' w', w'.ownsRow 0 3 1 (.slice a' n' c') (n + 1) (xs ++ [.int .i64 z]) → w.grownBy w' v.ownBlock → ((Value.slice a' n' c').ownBlock = v.ownBlock ∨ (Value.slice a' n' c').ownBlock = some w.heap.size) → wpList Tryd.prog ops Q rest (a.put o.dst (.slice a' n' c')) w') : wpList Tryd.prog ops Q (o :: rest) a w := by
  obtain ⟨i, hi, hz, hsz, hby⟩ := info_of infoInt'
  refine wpList_append_row_at hgd s x 61 ho 0 3 i _ 1 8 Tryd.underlying61 hi hz hsz hby rfl (by decide) v n xs hs hown (fun _ => True) _ 1 [.int .i64 z] hx (hB.rw (Nat.le_refl _) (by omega) (fun h => by omega) _ trivial) rfl
    (by intro u hu; simp at hu; subst hu; rfl) (by unfold maxLen; omega) (by omega) (Nat.zero_le _) ?_
  intro v' w' k1 k2 k3
  obtain ⟨a', c', rfl⟩ := own_shape k1
  exact h a' _ c' w' k1 k2 k3
end Go.Proofs.YtbaggkfgnjenoacDoor
/-
  Metas as plain data; MetaOk, l04Five and MetaBytes of the specification.
-/
namespace Go.Proofs.YtbaggkfgnjenoacDoor
open Go.RowKit
def mtOk (g r : Int) : Bool := decide (1 ≤ g ∧ g ≤ 1099511627775) && (decide (r = 0) || decide (2 ≤ r ∧ r < 400))
def wts : List Int := [4294967296, 16777216, 65536, 256, 1]
def five (n : Int) : List Int := wts.map fun W => n / W % 256
def fiveT (n : Int) (j : Nat) : List Int := (wts.take j).map fun W => n / W % 256
def mtHead (g r : Int) : List Int := [77] ++ five g ++ [r / 256, r % 256]
def mtFull (g r : Int) : List Int := mtHead g r ++ List.replicate 499 0 ++ five g
def mtBytes (g r : Int) : Option (List Int) := if mtOk g r = true then some (mtFull g r) else none
theorem five_len (n : Int) : (five n).length = 5 := rfl
theorem mtFull_len (g r : Int) : (mtFull g r).length = 512 := by simp only [mtFull, mtHead, List.length_append, List.length_replicate, five_len, List.length_cons, List.length_nil]
theorem five_byte (n : Int) : ∀ z ∈ five n, 0 ≤ z ∧ z ≤ 255 := by
  intro z hz
  simp only [five, List.mem_map] at hz
  obtain ⟨W, _, rfl⟩ := hz
  omega
theorem fiveT_byte (n : Int) (j : Nat) : ∀ z ∈ fiveT n j, 0 ≤ z ∧ z ≤ 255 := by
  intro z hz
  simp only [fiveT, List.mem_map] at hz
  obtain ⟨W, _, rfl⟩ := hz
  omega
theorem mtHead_byte {g r : Int} (h0 : 0 ≤ r) (h1 : r < 400) : ∀ z ∈ mtHead g r, 0 ≤ z ∧ z ≤ 255 :=
  byte_append (byte_append (by intro z hz; simp at hz; omega) (five_byte g)) (by intro z hz; simp at hz; omega)
theorem mtFull_byte {g r : Int} (h0 : 0 ≤ r) (h1 : r < 400) : ∀ z ∈ mtFull g r, 0 ≤ z ∧ z ≤ 255 :=
  byte_append (byte_append (mtHead_byte h0 h1) (fun z hz => by have := List.eq_of_mem_replicate hz; omega)) (five_byte g)
def wAt (j : Nat) : Int := wts[j]?.getD 1
theorem wAt_rng {j : Nat} (h : j < 5) : 1 ≤ wAt j ∧ wAt j ≤ 4294967296 := by
  match j, h with
  | 0, _ => decide
  | 1, _ => decide
  | 2, _ => decide
  | 3, _ => decide
  | 4, _ => decide
theorem fiveT_succ (n : Int) {j : Nat} (h : j < 5) : fiveT n (j + 1) = fiveT n j ++ [n / wAt j % 256] := by
  match j, h with
  | 0, _ => rfl
  | 1, _ => rfl
  | 2, _ => rfl
  | 3, _ => rfl
  | 4, _ => rfl
theorem fiveT_five (n : Int) : fiveT n 5 = five n := rfl
theorem fiveT_len (n : Int) {j : Nat} (h : j ≤ 5) : (fiveT n j).length = j := by
  simp [fiveT, wts]; omega
theorem mtOk_facts {g r : Int} (h : mtOk g r = true) : 1 ≤ g ∧ g ≤ 1099511627775 ∧ 0 ≤ r ∧ r < 400 := by
  simp [mtOk] at h
  omega
theorem infoU8' : (Tryd.prog.info? 5).map (fun i => (i.zero, i.size, i.bytes)) = some (some (.int .u8 0), 1, 1) := by kernel_rfl
theorem Ob.lower {w : World} {B B' : Nat} {v : Value} {zs : List Int} (h : Ob w B v zs) (hB : B' ≤ B) : Ob w B' v zs := by
  refine ⟨h.1, h.2.imp id ?_⟩
  rintro ⟨g, cap, cur, h1, h2, h3⟩
  exact ⟨g, cap, cur, h1, Nat.le_trans hB h2, h3⟩
theorem Ob.keep {w w' : World} {B : Nat} {v : Value} {zs : List Int} (h : Ob w B v zs) (hb : Below w.heap.size w w') : Ob w' B v zs := own_kept h (only_of_below hb (fun _ => False)) (fun _ _ h => h)
/-- append of bytes to a row of one's own, and where the new row lies. -/
theorem wpList_append_by {w : World} {ops : Array Oper} {rest : List Oper} {o : Oper} {a : Act} {Q : Exit → Act → World → Prop} (hgd : o.guard = none) (s x : Operand)
    (ho : o.op = .call { callee := .builtin .append, args := #[s, x], argTypes := #[22, 22] }) (B : Nat) (v : Value) (zs : List Int) (hs : a.eval s = v) (hown : Ob w B v zs)
    (ao : Option Addr) (m c : Nat) (ys : List Int) (hx : a.eval x = .slice ao m c) (hsrc : Rd w ao m c ys) (hb : zs.length ≤ 1048576) (hm : m ≤ 1048576) (hB : B ≤ w.heap.size) (hc : ao = none → c = 0)
    (h : ∀ a' n' c' w', Ob w' B (.slice a' n' c') (zs ++ ys) → w.grownBy w' v.ownBlock → ((Value.slice a' n' c').ownBlock = v.ownBlock ∨ (Value.slice a' n' c').ownBlock = some w.heap.size) → wpList Tryd.prog ops Q rest (a.put o.dst (.slice a' n' c')) w') : wpList Tryd.prog ops Q (o :: rest) a w := by
  obtain ⟨i, hi, hz, hsz, hby⟩ := info_of infoU8'
  obtain ⟨r1, r2, r3, r4, r5, r6⟩ := hsrc
  refine wpList_append_row_at hgd s x 22 ho B 5 i _ 1 1 Tryd.underlying22 hi hz hsz hby rfl (by decide) v zs.length (zs.map (Value.int .u8)) hs hown (fun _ => True) _ m (ys.map (Value.int .u8)) hx ?_ (by simp [r1]) (by intro u hu; simp at hu; obtain ⟨z, _, rfl⟩ := hu; rfl) (by unfold maxLen; omega) (by omega) hB ?_
  · refine ⟨ao, c, rfl, r2, r3, fun h0 => by rw [List.eq_nil_of_length_eq_zero (by omega : ys.length = 0)]; rfl, hc, fun hp => ?_⟩
    obtain ⟨b, off, e, hb, hcell⟩ := r6 hp
    refine ⟨b, off, e, hb, trivial, fun j u hu => ?_⟩
    rw [List.getElem?_map] at hu
    obtain ⟨z, hz, rfl⟩ := Option.map_eq_some_iff.1 hu
    have hj : j < ys.length := (List.getElem?_eq_some_iff.1 hz).1
    have := hcell j (by omega)
    rwa [hz] at this
  · intro v' w' k1 k2 k3
    obtain ⟨a', c', rfl⟩ := own_shape k1
    refine h a' _ c' w' ?_ k2 k3
    unfold Ob
    rw [List.length_append, List.map_append, ← r1]
    exact k1
end Go.Proofs.YtbaggkfgnjenoacDoor
/-
  l04Same: two slices of bytes hold the same.
-/
namespace Go.Proofs.YtbaggkfgnjenoacDoor
open Go.RowKit
def zAt (zs : List Int) (i : Nat) : Int := zs[i]?.getD 0
theorem strOf_eq {xs ys : List Int} (hx : ∀ z ∈ xs, 0 ≤ z ∧ z ≤ 255) (hy : ∀ z ∈ ys, 0 ≤ z ∧ z ≤ 255) (h : strOf xs = strOf ys) : xs = ys := by
  have key : ∀ (o : List Int), (∀ z ∈ o, 0 ≤ z ∧ z ≤ 255) → bytesOf (strOf o) = o := by
    intro o ho
    simp only [bytesOf, strOf, List.map_map]
    conv => rhs; rw [← List.map_id o]
    refine List.map_congr_left fun z hz => ?_
    have := ho z hz
    simp
    omega
  rw [← key xs hx, ← key ys hy, h]
end Go.Proofs.YtbaggkfgnjenoacDoor
/-
  MetaBytes and MetaRead of the specification; what is read out of a meta's bytes, as plain data.
-/
namespace Go.Proofs.YtbaggkfgnjenoacDoor
open Go.RowKit
theorem ob_lit (w : World) (z : Int) : Ob (w.alloc (.cells #[.int .u8 z] 5)) w.heap.size (.slice (some ⟨w.heap.size, 0, none⟩) 1 1) [z] :=
  ⟨rfl, .inr ⟨w.heap.size, 1, #[.int .u8 z], rfl, Nat.le_refl _, heap_alloc_new w _, Nat.le_refl _, by decide, rfl, rfl⟩⟩
theorem rd_two (w : World) (y z : Int) (h0 : 0 ≤ y ∧ y ≤ 255) (h1 : 0 ≤ z ∧ z ≤ 255) : Rd (w.alloc (.cells #[.int .u8 y, .int .u8 z] 5)) (some ⟨w.heap.size, 0, none⟩) 2 2 [y, z] := by
  refine ⟨rfl, Nat.le_refl _, by omega, by omega, fun i => ?_, fun _ => ⟨w.heap.size, 0, rfl, by simp, fun i hi => ?_⟩⟩
  · match i with
    | 0 => exact h0
    | 1 => exact h1
    | n + 2 => simp
  · have k := Bk.new w 5 [.int .u8 y, .int .u8 z]
    match i, hi with
    | 0, _ => exact k.cell (j := 0) rfl
    | 1, _ => exact k.cell (j := 1) rfl
theorem PutM.got {w w' : World} {r : Option (List Int)} {e : Ending} {zs : List Int} (h : Put w r e w') (hr : r = some zs) : ∃ v, e = .returned (.tuple #[v, .bool true]) ∧ Ob w' w.heap.size v zs ∧ Below w.heap.size w w' := by
  obtain ⟨hb, ⟨h1, _⟩ | ⟨v, zs', h1, h2, h3⟩⟩ := h
  · rw [hr] at h1; cases h1
  · rw [hr] at h1; cases h1
    exact ⟨v, h2, h3, hb⟩
theorem btw {u v w : World} (h : Below u.heap.size u v) (k : Below v.heap.size v w) : Below u.heap.size u w := h.trans (k.mono h.size)
/-- What append leaves below, and what it keeps. -/
theorem Ob.grown {u w w' : World} {v : Value} {zs : List Int} (h : Ob w u.heap.size v zs) (hb : Below u.heap.size u w) (hg : w.grownBy w' v.ownBlock) : Below u.heap.size u w' := by
  have hon : Only (fun y => v.ownBlock = some y) w w' := only_of_grown hg (fun k e => e)
  exact hb.trans (hon.below hb.size (fun b hb' e => by have := (World.ownsRow.lt h b e).1; omega))
theorem Ob.bk {u : Nat} {w w' : World} {v : Value} {zs : List Int} {b : Nat} {T : TypeId} {xs : List Value} (h : Ob w u v zs) (hk : Bk w b T xs) (hg : w.grownBy w' v.ownBlock) (hb : b < u) : Bk w' b T xs :=
  hk.to (only_of_grown hg (R := fun y => v.ownBlock = some y) (fun k e => e)) (fun e => by have := (World.ownsRow.lt h b e).1; omega)
end Go.Proofs.YtbaggkfgnjenoacDoor
/-
  MetaRead of the specification; metas are read as they were written, and torn ones aren't read as new ones.
-/
namespace Go.Proofs.YtbaggkfgnjenoacDoor
open Go.RowKit
def acc (zs : List Int) : Nat → Int
  | 0 => 0
  | j + 1 => acc zs j * 256 + zAt zs (j + 1)
def mcd (zs : List Int) : Int × Int := (acc zs 5, zAt zs 6 * 256 + zAt zs 7)
def mrd (zs : List Int) : Option (Int × Int) := if zs.length = 512 ∧ mtBytes (mcd zs).1 (mcd zs).2 = some zs then some (mcd zs) else none
theorem acc_rng {zs : List Int} (hb : ∀ i : Nat, 0 ≤ zs[i]?.getD 0 ∧ zs[i]?.getD 0 ≤ 255) : ∀ j, j ≤ 5 → 0 ≤ acc zs j ∧ acc zs j < 1099511627776 ∧ (j ≤ 4 → acc zs j < 4294967296) ∧ (j ≤ 3 → acc zs j < 16777216) ∧ (j ≤ 2 → acc zs j < 65536) ∧ (j ≤ 1 → acc zs j < 256) ∧ (j ≤ 0 → acc zs j < 1)
  | 0, _ => by simp [acc]
  | j + 1, h => by
    have h1 := acc_rng hb j (by omega)
    have h2 := hb (j + 1)
    have e : acc zs (j + 1) = acc zs j * 256 + zs[j + 1]?.getD 0 := rfl
    rw [e]
    omega
def MrPost (o : Option (Int × Int)) (w : World) (e : Ending) (w' : World) : Prop := Below w.heap.size w w' ∧ ((o = none ∧ e = .returned (.tuple #[.agg #[.int .i64 0, .int .i64 0], .bool false])) ∨ ∃ g r, o = some (g, r) ∧ e = .returned (.tuple #[.agg #[.int .i64 g, .int .i64 r], .bool true]))
end Go.Proofs.YtbaggkfgnjenoacDoor
/-
  What a row's list of errors gives: the variable's cell holds an error.
-/
namespace Go.Proofs.YtbaggkfgnjenoacDoor
open Go.RowKit Go.ChangeShapes

theorem laid_err {P : Program} {n nm : String} {d : DataW Unit} {r : List (String × DataW Unit)} {W : World} {g : Nat} {ti : TypeId} {ms : Array (String × TypeId)}
    (h : laidMet P ((n, .iface nm d) :: r) W) (hg : P.globalNamed n = some g) (ht : (P.globals[g]?).map (·.type) = some ti) (hi : P.underlying ti = some (.interface ms)) : Err W g := by
  obtain ⟨ps, ⟨g0, t0, cs0, f0, p0, q0, hg0, ht0, hv0, hd0, _, e0⟩, _, hrows⟩ := h
  obtain rfl := Option.some.inj (hg.symm.trans hg0)
  obtain rfl := Option.some.inj (ht.symm.trans ht0)
  obtain ⟨f1, u, v, hcs, hn, h1⟩ := iface_of_trod hi hd0
  have hc : cs0 = #[.iface u v] := by
    cases cs0
    simp_all
  subst hc
  exact ⟨u, v, by simpa using World.var?_cell hg0 hv0 0⟩
theorem Err.lt {w : World} {g : Nat} (h : Err w g) : g < w.heap.size := by
  obtain ⟨t, x, hc⟩ := h
  exact block_lt hc
end Go.Proofs.YtbaggkfgnjenoacDoor
/-
  MetaOk, highFirst, fromHighFirst, MetaBytes and MetaRead of the program.
-/
namespace Go.Proofs.YtbaggkfgnjenoacDoor
open Go.RowKit
/-- The number without its k lowest bytes; its k lowest bytes, the highest first. -/
def shr8 (n : Int) : Nat → Int
  | 0 => n
  | k + 1 => shr8 n k / 256
def low8 (n : Int) : Nat → List Int
  | 0 => []
  | k + 1 => (shr8 n k % 256) :: low8 n k
theorem low8_len (n : Int) : ∀ k, (low8 n k).length = k
  | 0 => rfl
  | k + 1 => by rw [low8, List.length_cons, low8_len n k]
theorem low8_byte (n : Int) : ∀ k, ∀ z ∈ low8 n k, 0 ≤ z ∧ z ≤ 255
  | 0 => by intro z hz; cases hz
  | k + 1 => by
    intro z hz
    rw [low8] at hz
    rcases List.mem_cons.1 hz with rfl | h
    · omega
    · exact low8_byte n k z h
theorem low8_five (n : Int) : low8 n 5 = five n := by
  simp only [low8, shr8, five, wts, List.map_cons, List.map_nil]
  refine List.cons_eq_cons.2 ⟨by omega, List.cons_eq_cons.2 ⟨by omega, List.cons_eq_cons.2 ⟨by omega, List.cons_eq_cons.2 ⟨by omega, List.cons_eq_cons.2 ⟨by omega, rfl⟩⟩⟩⟩⟩
theorem low8_two {n : Int} (h0 : 0 ≤ n) (h1 : n < 65536) : low8 n 2 = [n / 256, n % 256] := by
  simp only [low8, shr8]
  refine List.cons_eq_cons.2 ⟨by omega, rfl⟩
theorem shr8_rng {n : Int} (h0 : 0 ≤ n) : ∀ k, 0 ≤ shr8 n k ∧ shr8 n k ≤ n
  | 0 => ⟨h0, Int.le_refl _⟩
  | k + 1 => by
    have := shr8_rng h0 k
    rw [shr8]
    omega
/-- The row that highFirst fills from behind, k of its bytes being there. -/
def lowP (n : Int) (s k : Nat) : List Int := List.replicate (s - k) 0 ++ low8 n k
theorem lowP_len (n : Int) {s k : Nat} (h : k ≤ s) : (lowP n s k).length = s := by
  rw [lowP, List.length_append, List.length_replicate, low8_len]
  omega
theorem lowP_set (n : Int) {s k : Nat} (h : k < s) : (byteVals (lowP n s k)).setIfInBounds (s - 1 - k) (.int .u8 (shr8 n k % 256)) = byteVals (lowP n s (k + 1)) := by
  obtain ⟨m, rfl⟩ : ∃ m, s = k + 1 + m := ⟨s - (k + 1), by omega⟩
  have e1 : k + 1 + m - k = m + 1 := by omega
  have e2 : k + 1 + m - (k + 1) = m := by omega
  have e3 : k + 1 + m - 1 - k = m := by omega
  rw [lowP, lowP, e1, e2, e3, byteVals, byteVals, List.setIfInBounds_toArray]
  congr 1
  rw [List.map_append, List.map_append, List.map_replicate, List.map_replicate, List.replicate_succ', List.append_assoc, List.set_append_right _ _ (by simp)]
  simp [low8]
theorem lowP_zero (n : Int) (s : Nat) : byteVals (lowP n s 0) = madeCells #[.int .u8 0] s := by
  apply Array.ext
  · simp [byteVals, lowP, low8, madeCells]
  · intro i h1 h2; simp [byteVals, lowP, low8, madeCells, Nat.mod_one]
theorem lowP_all (n : Int) (s : Nat) : lowP n s s = low8 n s := by simp [lowP]
theorem lowP_at (n : Int) {s k : Nat} (h : k ≤ s) {i : Nat} (hi : i < s) : ∃ z, (byteVals (lowP n s k))[i]? = some (.int .u8 z) := by
  have hl : i < (lowP n s k).length := by rw [lowP_len n h]; exact hi
  exact ⟨(lowP n s k)[i], by simp [byteVals, hl]⟩
/-- The number that bytes tell, the highest first. -/
def hiF (zs : List Int) : Int := zs.foldl (fun n z => n * 256 + z) 0
theorem hiF_take (zs : List Int) {k : Nat} (h : k < zs.length) : hiF (zs.take (k + 1)) = hiF (zs.take k) * 256 + zs[k]?.getD 0 := by
  rw [List.take_succ_eq_append_getElem h, hiF, List.foldl_append]
  simp [hiF, h]
theorem hiF_rng {zs : List Int} (hb : ∀ z ∈ zs, 0 ≤ z ∧ z ≤ 255) : ∀ k, k ≤ zs.length → 0 ≤ hiF (zs.take k) ∧ (k ≤ 5 → hiF (zs.take k) < 1099511627776) ∧ (k ≤ 4 → hiF (zs.take k) < 4294967296) ∧ (k ≤ 3 → hiF (zs.take k) < 16777216) ∧ (k ≤ 2 → hiF (zs.take k) < 65536) ∧ (k ≤ 1 → hiF (zs.take k) < 256) ∧ (k ≤ 0 → hiF (zs.take k) < 1)
  | 0, _ => by simp [hiF]
  | k + 1, h => by
    have h1 := hiF_rng hb k (by omega)
    have h2 := byte_at hb k
    rw [hiF_take zs (by omega)]
    omega
theorem rd_nilM (w : World) : Rd w none 0 0 [] := ⟨rfl, Nat.le_refl _, by omega, by omega, by simp, fun h => by omega⟩
theorem addSt_ok {most : Nat} {zs ys : List Int} (h : zs.length + ys.length ≤ most) : addSt most (some zs) ys = some (zs ++ ys) := if_pos h
theorem fillSt_ok {most : Nat} {zs : List Int} {k : Nat} (h : zs.length + k ≤ most) : fillSt most (some zs) ((zs.length + k : Nat) : Int) = some (zs ++ List.replicate k 0) := by
  show (if (zs.length : Int) ≤ ((zs.length + k : Nat) : Int) ∧ ((zs.length + k : Nat) : Int) ≤ most then _ else _) = _
  rw [if_pos (by omega)]
  congr 3
  omega
theorem Put.lift {w u w' : World} {r : Option (List Int)} {e : Ending} (hb : Below w.heap.size w u) (h : Put u r e w') : Put w r e w' := by
  refine ⟨btw hb h.1, h.2.imp id ?_⟩
  rintro ⟨v, zs, h1, h2, h3⟩
  exact ⟨v, zs, h1, h2, h3.lower hb.size⟩
theorem Rd.cut {w : World} {b off n c : Nat} {zs : List Int} (h : Rd w (some ⟨b, off, none⟩) n c zs) (lo m : Nat) (hm : lo + m ≤ n) : Rd w (some ⟨b, off + lo, none⟩) m (c - lo) ((zs.drop lo).take m) := by
  obtain ⟨h1, h2, h3, h4, h5, h6⟩ := h
  have e : ∀ i, i < m → ((zs.drop lo).take m)[i]?.getD 0 = zs[lo + i]?.getD 0 := by
    intro i hi
    rw [List.getElem?_take_of_lt hi, List.getElem?_drop]
  refine ⟨by simp; omega, by omega, by omega, by omega, fun i => ?_, fun hp => ?_⟩
  · by_cases hi : i < m
    · rw [e i hi]; exact h5 _
    · rw [List.getElem?_eq_none (by simp; omega)]; simp
  · obtain ⟨b', off', ha, hb, hc⟩ := h6 (by omega)
    cases ha
    refine ⟨b, off + lo, rfl, hb, fun i hi => ?_⟩
    rw [e i hi, Nat.add_assoc]
    exact hc (lo + i) (by omega)
theorem hiF_acc (zs : List Int) (h : zs.length = 512) : ∀ k, k ≤ 5 → hiF ((zs.drop 1).take k) = acc zs k
  | 0, _ => by simp [hiF, acc]
  | k + 1, hk => by
    rw [hiF_take _ (by simp; omega), hiF_acc zs h k (by omega), acc, List.getElem?_drop, Nat.add_comm 1 k]
    rfl
theorem hiF_root (zs : List Int) (h : zs.length = 512) : hiF ((zs.drop 6).take 2) = zAt zs 6 * 256 + zAt zs 7 := by
  rw [hiF_take _ (by simp; omega), hiF_take _ (by simp; omega), List.getElem?_drop, List.getElem?_drop]
  simp [hiF, zAt]
set_option maxHeartbeats 800000 in
theorem bytesEqual_any (a b : Option Addr) (n m c d : Nat) (xs ys : List Int) (w : World) (hx : Rd w a n c xs) (hy : Rd w b m d ys) :
    Calls Tryd.prog 26 #[.slice a n c, .slice b m d] w fun e w' => e = .returned (.bool (decide (xs = ys))) ∧ w = w' := by
  have h1 := run_str hx
  have h2 := run_str hy
  have b1 := at_byte hx.2.2.2.2.1
  have b2 := at_byte hy.2.2.2.2.1
  by_cases e : xs = ys
  · subst e
    generalize strOf xs = s at *
    rw [decide_eq_true rfl]
    clear b1 b2 hx hy
    go_enter Tryd.func26, Tryd.ntmps26
    go_wp2
    go_ret
    exact ⟨rfl, rfl⟩
  · have hne : ((strOf xs).toList == (strOf ys).toList) = false := by
      rw [beq_eq_false_iff_ne]
      exact fun h => e (strOf_eq b1 b2 (str_ext h))
    rw [decide_eq_false e]
    generalize strOf xs = s at *
    generalize strOf ys = t at *
    clear b1 b2 hx hy e
    go_enter Tryd.func26, Tryd.ntmps26
    go_wp2
    go_ret
    exact ⟨rfl, rfl⟩
end Go.Proofs.YtbaggkfgnjenoacDoor
/-
  The program's writer where there is room: what it leaves alone besides what lies below it.
-/
namespace Go.Proofs.YtbaggkfgnjenoacDoor
open Go.RowKit
/-- The block b is none of the writer's. -/
def Off (w : World) (g b : Nat) : Prop := b < w.heap.size ∧ b ≠ g ∧ ∀ v, w.cell? ⟨g, 0, none⟩ = some v → v.ownBlock ≠ some b
/-- What isn't the writer's is as it was, and isn't the writer's still. -/
def Kp (g : Nat) (w w' : World) : Prop := ∀ b, Off w g b → w'.heap[b]? = w.heap[b]? ∧ Off w' g b
theorem Kp.refl (g : Nat) (w : World) : Kp g w w := fun _ h => ⟨rfl, h⟩
theorem Kp.trans {g : Nat} {w w1 w2 : World} (h : Kp g w w1) (k : Kp g w1 w2) : Kp g w w2 := fun b hb => ⟨(k b (h b hb).2).1.trans (h b hb).1, (k b (h b hb).2).2⟩
theorem Kp.alloc {g : Nat} {w : World} (hg : g < w.heap.size) (o : Obj) : Kp g w (w.alloc o) := by
  intro b hb
  refine ⟨Below.heap_alloc _ _ _ hb.1, Nat.lt_of_lt_of_le hb.1 (by simp), hb.2.1, fun v hv => hb.2.2 v ?_⟩
  rwa [World.cell?_alloc_past (hn := hg)] at hv
theorem Kp.drewN (g : Nat) (w : World) (q : Nat) : Kp g w (w.drewN q) := fun _ h => ⟨rfl, h⟩
theorem Kp.drew (g : Nat) (w : World) : Kp g w w.drew := fun _ h => ⟨rfl, h⟩
theorem Kp.bk {g : Nat} {w w' : World} (h : Kp g w w') {b : Nat} {T : TypeId} {xs : List Value} (ho : Off w g b) (hk : Bk w b T xs) : Bk w' b T xs := (h b ho).1.trans hk
theorem only_under {G : Nat} {w w' : World} (h : Below G w w') : Only (fun b => G ≤ b) w w' := ⟨h.os, h.tape, h.output, h.size, fun b _ hn => h.block b (by omega)⟩
theorem Wr.off {w : World} {g most : Nat} {st : Option (List Int)} (h : Wr w g most st) (o : Obj) : Off (w.alloc o) g w.heap.size := by
  have hlt := h.lt
  obtain ⟨v, ev, zs, c0, c1, c2, f0, f2, ho, hr⟩ := h
  refine ⟨by simp, by omega, fun u hu e => ?_⟩
  rw [World.cell?_alloc_past (hn := hlt), c0] at hu
  cases hu
  have := (World.ownsRow.lt ho _ e).2
  omega
set_option maxHeartbeats 800000 in
theorem addK_any (g most : Nat) (zs : List Int) (a : Option Addr) (n c : Nat) (ys : List Int) (w : World) (h : Wr w g most (some zs)) (hs : Rd w a n c ys) (hn : n ≤ 1048576) (hcz : a = none → c = 0) (hfit : zs.length + ys.length ≤ most) (hmo : most ≤ 1048576) :
    Calls Tryd.prog 38 #[.pointer (some ⟨g, 0, none⟩), .slice a n c] w fun e w' => e = .returned (.tuple #[]) ∧ Below g w w' ∧ Wr w' g most (some (zs ++ ys)) ∧ Kp g w w' := by
  have HS := hid hs
  have HN : Hid (n = ys.length) := hs.1
  have hyb := at_byte hs.2.2.2.2.1
  have HY := hid hyb
  have hlt := h.lt
  have HCZ := hid hcz
  obtain ⟨v, ev, zs', c0, c1, c2, f0, f2, ho, hl, hm, hb, hst⟩ := h
  rcases hst with ⟨rfl, e⟩ | ⟨_, e⟩
  · cases e
    obtain ⟨va, vc, hv⟩ := ho.shape
    have HO := hid ho
    have HB := hid hb
    have HV := hid hv
    rw [hv] at c0
    have HC0 := hid c0
    generalize hL : zs.length = L at hv hl c0
    have HL := hid hL
    clear ho hb hs hyb hL hv hcz
    have hbig : ¬ (most : Int) - (L : Int) < (n : Int) := by have := HL.out; have := HN.out; omega
    have HO' : Hid (Ob w (g + 1) (.slice va L vc) zs) := by show Ob w (g + 1) (.slice va L vc) zs; rw [← HL.out, ← HV.out]; exact HO.out
    have HFT : Hid (zs.length + ys.length ≤ most) := hfit
    clear hfit
    go_enter Tryd.func38, Tryd.ntmps38
    go_wp2
    go_quiet (fail)
    go_wp2_with (at_builtin; refine wpList_append_by rfl _ _ rfl (g + 1) _ zs rfl (HO'.out.drewN nq) a n c ys rfl (HS.out.drewN nq) ?b ?m ?base HCZ.out ?_)
    case b => rw [HL.out]; omega
    case m => omega
    case base => simp; omega
    intro a2 L2 k2 w2 hown2 hg2 hwh
    have hb2 : Below (g + 1) w w2 := Ob.below (HO'.out.drewN nq) (Below.drewN' (Below.refl _ _) nq) (by simp; omega) hg2
    have HO2 := hid hown2
    have HG2 := hid hg2
    have HWH := hid hwh
    have d0 := (hb2.cell (p := ⟨g, 0, none⟩) (by simp)).trans c0
    have d1 := (hb2.cell (p := ⟨g, 1, none⟩) (by simp)).trans c1
    have d2 := (hb2.cell (p := ⟨g, 2, none⟩) (by simp)).trans c2
    have e0 := (hb2.frozen (p := ⟨g, 0, none⟩) (by simp)).trans f0
    have e2 := (hb2.frozen (p := ⟨g, 2, none⟩) (by simp)).trans f2
    clear hown2 hg2 hwh
    go_wp2
    go_end0
    refine ⟨rfl, Below.setCell (p := ⟨g, 0, none⟩) (hb2.mono (Nat.le_succ g)) (Nat.le_refl g) _, ?_, ?_⟩
    · refine ⟨.slice a2 L2 k2, .nilIface, zs ++ ys, World.cell?_setCell_same _ _ _ d0, ?_, ?_, by simpa using e0, by simpa using e2, ?_, ?_, hm, byte_append HB.out HY.out, .inl ⟨rfl, rfl⟩⟩
      · rw [World.cell?_setCell_other (h := by simp)]; exact d1
      · rw [World.cell?_setCell_other (h := by simp)]; exact d2
      · exact ownsRow_setCell_below HO2.out (by simp) _
      · rw [List.length_append]; exact HFT.out
    · intro b hoff
      have hrow : (Value.slice va L vc).ownBlock ≠ some b := hoff.2.2 _ c0
      have hbk : w2.heap[b]? = w.heap[b]? := HG2.out.block b hoff.1 (fun e => hrow e.symm)
      refine ⟨?_, ?_, hoff.2.1, ?_⟩
      · rw [← hbk]
        exact Below.heap_setCell _ _ _ _ (fun e => hoff.2.1 e)
      · have := HG2.out.size
        have h1 := hoff.1
        show b < (w2.setCell _ _).heap.size
        simp [World.setCell]
        exact Nat.lt_of_lt_of_le h1 this
      · intro u hu e
        rw [World.cell?_setCell_same _ _ _ d0] at hu
        cases hu
        rcases HWH.out with h1 | h1
        · exact hrow (h1 ▸ e)
        · rw [h1] at e
          have h2 := hoff.1
          have h3 : w.heap.size = b := Option.some.inj e
          omega
  · cases e
set_option maxHeartbeats 400000 in
theorem addByteK_any (g most : Nat) (zs : List Int) (z : Int) (w : World) (h : Wr w g most (some zs)) (h0 : 0 ≤ z) (h1 : z ≤ 255) (hfit : zs.length + 1 ≤ most) (hmo : most ≤ 1048576) :
    Calls Tryd.prog 42 #[.pointer (some ⟨g, 0, none⟩), .int .u8 z] w fun e w' => e = .returned (.tuple #[]) ∧ Below g w w' ∧ Wr w' g most (some (zs ++ [z])) ∧ Kp g w w' := by
  have hlt := h.lt
  have HW := hid h
  clear h
  have hb1 : Below g w (w.alloc (.cells #[.int .u8 z] 5)) := (Below.refl _ _).alloc (Nat.le_of_lt hlt) _
  have HB := hid hb1
  have HK := hid (Kp.alloc hlt (.cells #[.int .u8 z] 5))
  clear hb1
  go_enter Tryd.func42, Tryd.ntmps42
  go_wp2_with (go_at_call 38; refine (addK_any g most zs _ 1 1 [z] _ (HW.out.alloc _) (rd_one w z h0 h1) (by omega) (fun e => by cases e) (by simpa using hfit) hmo).mono ?_; rintro e w1 ⟨rfl, hb, hw, hk⟩)
  go_end0
  exact ⟨rfl, HB.out.trans hb, hw, HK.out.trans hk⟩
set_option maxHeartbeats 800000 in
theorem numberK_any (g most : Nat) (zs : List Int) (m : Int) (w : World) (h : Wr w g most (some zs)) (h0 : 0 ≤ m) (h1 : m ≤ 1099511627775) (hfit : zs.length + (enc m).length ≤ most) (hmo : most ≤ 1048576) :
    Calls Tryd.prog 15 #[.pointer (some ⟨g, 0, none⟩), .int .i64 m] w fun e w' => e = .returned (.tuple #[]) ∧ Below g w w' ∧ Wr w' g most (some (zs ++ enc m)) ∧ Kp g w w' := by
  have HW := hid h
  have HFT := hid hfit
  clear h hfit
  go_enter Tryd.func15, Tryd.ntmps15
  go_wp2_with (go_at_call 40; refine (isNumber_any m _ true (by simp [h0, h1])).mono ?_; rintro e w' ⟨rfl, rfl⟩)
  go_loopw [1] (fun i wr => ∃ (f : Nat) (q : Int) (ds : List Int), i = .int .i64 q ∧ 0 ≤ q ∧ q ≤ 1099511627775 ∧ q < bnd f ∧ ds ++ encF f q = enc m ∧ Wr wr g most (some (zs ++ ds)) ∧ Below g w wr ∧ Kp g w wr) (fun i _ => (intOf i).toNat)
  case atStart => exact ⟨6, m, [], rfl, h0, h1, by simp [bnd]; omega, rfl, by rw [List.append_nil]; exact HW.out, Below.refl _ _, Kp.refl _ _⟩
  case round =>
    obtain ⟨f, q, ds, rfl, hq0, hq1, hqb, hds, hwr, hbel, hkp⟩ := hrel
    have HD := hid hds
    have HQ := hid hqb
    have HR := hid hwr
    have HKP := hid hkp
    have HLN : Hid (zs.length + (ds.length + 1) ≤ most) := by
      have h2 := HFT.out
      rw [← hds, List.length_append] at h2
      have h3 := encF_len f q
      show _ ≤ _
      omega
    clear hds hqb hwr hkp
    by_cases hge : 128 ≤ q
    · obtain ⟨f', hf'⟩ : ∃ f', f = f' + 1 := by
        cases f with
        | zero => have := HQ.out; simp [bnd] at this; omega
        | succ f => exact ⟨f, rfl⟩
      subst hf'
      have HD2 : Hid (ds ++ [q % 128 + 128] ++ encF f' (q / 128) = enc m) := by
        show ds ++ [q % 128 + 128] ++ encF f' (q / 128) = enc m
        rw [← HD.out, encF_big f' q hge, Int.add_comm]; simp
      have HQ2 : Hid (q / 128 < bnd f') := bnd_down f' q HQ.out
      go_wp2_with (go_at_call 42; refine (addByteK_any g most (zs ++ ds) (q % 128 + 128) _ HR.out (by omega) (by omega) (by rw [List.length_append]; have := HLN.out; omega) hmo).mono ?_; rintro e w2 ⟨rfl, hb2, hw2, hk2⟩)
      go_roundw
      case rel => exact ⟨f', q / 128, ds ++ [q % 128 + 128], rfl, by omega, by omega, HQ2.out, HD2.out, by rw [← List.append_assoc]; exact hw2, hbel.trans hb2, HKP.out.trans hk2⟩
      case measure => simp [intOf]; omega
    · have HE3 : Hid (ds ++ [q] = enc m) := by
        show ds ++ [q] = enc m
        rw [← HD.out, encF_small f q (by omega)]
      go_wp2_with (go_at_call 42; refine (addByteK_any g most (zs ++ ds) q _ HR.out (by omega) (by omega) (by rw [List.length_append]; have := HLN.out; omega) hmo).mono ?_; rintro e w2 ⟨rfl, hb2, hw2, hk2⟩)
      go_end0
      exact ⟨rfl, hbel.trans hb2, by rw [← HE3.out, ← List.append_assoc]; exact hw2, HKP.out.trans hk2⟩
set_option maxHeartbeats 400000 in
theorem textK_any (g most : Nat) (zs : List Int) (s : ByteArray) (w : World) (h : Wr w g most (some zs)) (hs : s.size ≤ 1048576) (hfit : zs.length + ((enc s.size).length + s.size) ≤ most) (hmo : most ≤ 1048576) :
    Calls Tryd.prog 60 #[.pointer (some ⟨g, 0, none⟩), .string s] w fun e w' => e = .returned (.tuple #[]) ∧ Below g w w' ∧ Wr w' g most (some (zs ++ (enc s.size ++ bytesOf s))) ∧ Kp g w w' := by
  have hlt := h.lt
  have HW := hid h
  have HFT := hid hfit
  clear h hfit
  have hcv := fun w => run_bytes_of_string (P := Tryd.prog) w 9 22 5 s Tryd.underlying9 Tryd.underlying22 Tryd.underlying5
  go_enter Tryd.func60, Tryd.ntmps60
  go_wp2_with (go_at_call 15; refine (numberK_any g most zs s.size w HW.out (by omega) (by omega) (by have := HFT.out; omega) hmo).mono ?_; rintro e w1 ⟨rfl, hb1, hw1, hk1⟩)
  have HW1 := hid hw1
  have HB1 := hid hb1
  have HK1 := hid hk1
  clear hw1 hb1 hk1
  have hlt1 : g ≤ w1.heap.size := Nat.le_of_lt HW1.out.lt
  have hlt2 := HW1.out.lt
  refine (addK_any g most (zs ++ enc s.size) _ s.size _ (bytesOf s) _ ?gw ?gs (by omega) (fun e => by cases e) (by rw [List.length_append, bytesOf_len]; have := HFT.out; omega) hmo).mono ?_
  case gw => exact HW1.out.alloc _
  case gs => exact rd_conv _ s _ _ (by omega) (grownCap_ge _ _ _ _) (by have := grownCap_le_maxLen w1 s.size 0 5 (by unfold maxLen; omega); unfold maxLen at this; omega)
  rintro e w2 ⟨rfl, hb2, hw2, hk2⟩
  have HB2 := hid hb2
  have HW2 := hid hw2
  have HK2 := hid hk2
  clear hb2 hw2 hk2
  go_wp2
  go_end0
  refine ⟨rfl, HB1.out.trans (((Below.refl g w1).alloc hlt1 _).drew.trans HB2.out), by rw [← List.append_assoc]; exact HW2.out, HK1.out.trans ?_⟩
  exact Kp.trans (Kp.trans (Kp.alloc hlt2 _) (Kp.drew _ _)) HK2.out
end Go.Proofs.YtbaggkfgnjenoacDoor
/-
  Slices of strings: what is read of one; the law's helpers over them; SplitsOk of the program and of the specification.
-/
namespace Go.Proofs.YtbaggkfgnjenoacDoor
open Go.RowKit

/-- The slice value '.slice a n c' has in the world w the strings ss. -/
def Sd (w : World) (a : Option Addr) (n c : Nat) (ss : List ByteArray) : Prop :=
  n = ss.length ∧ n ≤ c ∧ c ≤ 9223372036854775807 ∧ (∀ i : Nat, (ss[i]?.getD ⟨#[]⟩).size ≤ 9223372036854775807) ∧
    (0 < n → ∃ b off, a = some ⟨b, off, none⟩ ∧ b < w.heap.size ∧ ∀ i, i < n → w.cell? ⟨b, off + i, none⟩ = some (.string (ss[i]?.getD ⟨#[]⟩)))
theorem Sd.kept {w w' : World} {a : Option Addr} {n c : Nat} {ss : List ByteArray} (h : Sd w a n c ss) (hB : Below w.heap.size w w') : Sd w' a n c ss := by
  obtain ⟨h1, h2, h3, h4, h5⟩ := h
  refine ⟨h1, h2, h3, h4, fun hp => ?_⟩
  obtain ⟨b, off, rfl, hb, hc⟩ := h5 hp
  refine ⟨b, off, rfl, Nat.lt_of_lt_of_le hb hB.size, fun i hi => ?_⟩
  rw [hB.cell (p := ⟨b, off + i, none⟩) hb]
  exact hc i hi
/-- The list is right from place k on: keys, each above the one ahead. -/
def sOkF (ss : List ByteArray) : Nat → Nat → Bool
  | 0, _ => true
  | f + 1, k => kOk (ss[k]?.getD ⟨#[]⟩) && (decide (k = 0) || Op.bytesLess (ss[k - 1]?.getD ⟨#[]⟩).toList (ss[k]?.getD ⟨#[]⟩).toList) && sOkF ss f (k + 1)
def sOk (ss : List ByteArray) : Bool := decide (ss.length ≤ 3) && sOkF ss ss.length 0
theorem sOkF_no (ss : List ByteArray) (f k : Nat) (h : kOk (ss[k]?.getD ⟨#[]⟩) = false) : sOkF ss (f + 1) k = false := by simp [sOkF, h]
theorem sOkF_0 (ss : List ByteArray) (f : Nat) (h : kOk (ss[0]?.getD ⟨#[]⟩) = true) : sOkF ss (f + 1) 0 = sOkF ss f 1 := by simp only [sOkF, h]; simp
theorem sOkF_s (ss : List ByteArray) (f j : Nat) (h : kOk (ss[j + 1]?.getD ⟨#[]⟩) = true) (b : Bool) (h2 : Op.bytesLess (ss[j]?.getD ⟨#[]⟩).toList (ss[j + 1]?.getD ⟨#[]⟩).toList = b) : sOkF ss (f + 1) (j + 1) = (b && sOkF ss f (j + 1 + 1)) := by
  simp only [sOkF, h, Nat.add_sub_cancel, h2]; simp
end Go.Proofs.YtbaggkfgnjenoacDoor
/-
  RecText of the program and of the specification.
-/
namespace Go.Proofs.YtbaggkfgnjenoacDoor
open Go.RowKit
set_option linter.unusedVariables false
set_option maxHeartbeats 400000 in
/-- A new writer of no bytes. -/
theorem newWriterK_any (most : Nat) (w : World) (hm : most ≤ 1048576) :
    Calls Tryd.prog 12 #[.slice none 0 0, .int .i64 most] w fun e w' => e = .returned (.pointer (some ⟨w.heap.size, 0, none⟩)) ∧ Below w.heap.size w w' ∧ Wr w' w.heap.size most (some []) := by
  go_enter Tryd.func12, Tryd.ntmps12
  have hw0 : Wr (w.alloc (.cells #[.slice none 0 0, .int .i64 most, .nilIface] 76)) w.heap.size most (some []) := by
    refine ⟨.slice none 0 0, .nilIface, [], ?_, ?_, ?_, World.frozen?_alloc_at (hn := rfl) .., World.frozen?_alloc_at (hn := rfl) .., World.ownsRow_nil _ _ _ _, by simp, by omega, by simp, .inl ⟨rfl, rfl⟩⟩
    · rw [World.cell?_alloc_at (hn := rfl)]; rfl
    · rw [World.cell?_alloc_at (hn := rfl)]; rfl
    · rw [World.cell?_alloc_at (hn := rfl)]; rfl
  have hb0 : Below w.heap.size w (w.alloc (.cells #[.slice none 0 0, .int .i64 most, .nilIface] 76)) := (Below.refl _ _).alloc (Nat.le_refl _) _
  have HW0 := hid hw0
  have HB0 := hid hb0
  clear hw0 hb0
  go_wp2_with (go_at_call 38; refine (addK_any w.heap.size most [] none 0 0 [] _ HW0.out ⟨rfl, Nat.le_refl _, by omega, by omega, by simp, fun h => by omega⟩ (by omega) (fun _ => rfl) (by simp) hm).mono ?_; rintro e w1 ⟨rfl, hb1, hw1, hk1⟩)
  go_ret
  exact ⟨rfl, HB0.out.trans hb1, hw1⟩
theorem sd_two (w : World) (x y : ByteArray) (T : TypeId) (hx : x.size ≤ 20) (hy : y.size ≤ 20) : Sd (w.alloc (.cells #[.string x, .string y] T)) (some ⟨w.heap.size, 0, none⟩) 2 2 [x, y] := by
  refine ⟨rfl, Nat.le_refl _, by omega, fun i => ?_, fun _ => ⟨w.heap.size, 0, rfl, by simp, fun i hi => ?_⟩⟩
  · match i with
    | 0 => simp; omega
    | 1 => simp; omega
    | n + 2 => simp; decide
  · rw [World.cell?_alloc_at (hn := rfl)]
    have : i = 0 ∨ i = 1 := by omega
    rcases this with rfl | rfl <;> simp
theorem sd_one (w : World) (x : ByteArray) (T : TypeId) (hx : x.size ≤ 20) : Sd (w.alloc (.cells #[.string x] T)) (some ⟨w.heap.size, 0, none⟩) 1 1 [x] := by
  refine ⟨rfl, Nat.le_refl _, by omega, fun i => ?_, fun _ => ⟨w.heap.size, 0, rfl, by simp, fun i hi => ?_⟩⟩
  · match i with
    | 0 => simp; omega
    | n + 1 => simp; decide
  · rw [World.cell?_alloc_at (hn := rfl)]
    have : i = 0 := by omega
    subst this; simp
end Go.Proofs.YtbaggkfgnjenoacDoor
/-
  What the law's helper markText does: it answers with one text for each number (for trees: greater numbers).
-/
namespace Go.Proofs.YtbaggkfgnjenoacDoor
open Go.RowKit
/-- The decimal digits of k ahead of acc. -/
def mtG : Nat → Nat → ByteArray → ByteArray
  | 0, _, acc => acc
  | f + 1, k, acc => if k = 0 then acc else mtG f (k / 10) (strOf [48 + ((k % 10 : Nat) : Int)] ++ acc)
theorem mtG_end (f : Nat) (acc : ByteArray) : mtG f 0 acc = acc := by cases f <;> simp [mtG]
theorem mtG_step (f k : Nat) (acc : ByteArray) (h : 0 < k) : mtG (f + 1) k acc = mtG f (k / 10) (strOf [48 + ((k % 10 : Nat) : Int)] ++ acc) := by
  simp [mtG]; omega
/-- The text for k. -/
def mt (k : Nat) : ByteArray := ⟨#[109]⟩ ++ mtG k k ⟨#[]⟩
end Go.Proofs.YtbaggkfgnjenoacDoor
/-
  Writing marks into slices: texts into cells of texts, numbers into cells of numbers; nothing else turns.
-/
namespace Go.Proofs.YtbaggkfgnjenoacDoor
open Go.RowKit
set_option linter.unusedVariables false
def isStr (u : Value) : Prop := ∃ s, u = .string s
def isInt (u : Value) : Prop := ∃ i, u = .int .i64 i
/-- The cell is the same, or both are texts, or both are numbers. -/
def simV (x y : Value) : Prop := x = y ∨ (isStr x ∧ isStr y) ∨ (isInt x ∧ isInt y)
theorem simV.trans {x y z : Value} (h : simV x y) (k : simV y z) : simV x z := by
  rcases h with rfl | ⟨h1, h2⟩ | ⟨h1, h2⟩
  · exact k
  · rcases k with rfl | ⟨k1, k2⟩ | ⟨k1, k2⟩
    · exact .inr (.inl ⟨h1, h2⟩)
    · exact .inr (.inl ⟨h1, k2⟩)
    · obtain ⟨s, rfl⟩ := h2; obtain ⟨i, hi⟩ := k1; cases hi
  · rcases k with rfl | ⟨k1, k2⟩ | ⟨k1, k2⟩
    · exact .inr (.inr ⟨h1, h2⟩)
    · obtain ⟨s, rfl⟩ := h2; obtain ⟨i, hi⟩ := k1; cases hi
    · exact .inr (.inr ⟨h1, k2⟩)
def Kind (K : Value → Prop) : Prop := ∀ x y, K x → simV x y → K y
theorem kind_str : Kind isStr := by
  rintro x y hx (rfl | ⟨_, h⟩ | ⟨h, _⟩)
  · exact hx
  · exact h
  · obtain ⟨s, rfl⟩ := hx; obtain ⟨i, hi⟩ := h; cases hi
theorem kind_int : Kind isInt := by
  rintro x y hx (rfl | ⟨h, _⟩ | ⟨_, h⟩)
  · exact hx
  · obtain ⟨s, rfl⟩ := hx; obtain ⟨i, hi⟩ := h; cases hi
  · exact h
theorem kind_slice (v : Value) (hv : ∃ a n c, v = .slice a n c) : Kind (fun u => u = v) := by
  obtain ⟨a, n, c, rfl⟩ := hv
  rintro x y rfl (rfl | ⟨h, _⟩ | ⟨h, _⟩)
  · rfl
  · obtain ⟨s, hs⟩ := h; cases hs
  · obtain ⟨s, hs⟩ := h; cases hs
/-- From w to w' only rows of S have turned, and of these each cell keeps its kind. -/
structure Mk (S : Nat → Prop) (w w' : World) : Prop where
  only : Only S w w'
  sim : ∀ b T xs, Bk w b T xs → S b → ∃ ys, Bk w' b T ys ∧ ∀ (j : Nat) u, xs[j]? = some u → ∃ u', ys[j]? = some u' ∧ simV u u'
theorem Mk.refl (S : Nat → Prop) (w : World) : Mk S w w := ⟨Only.refl _ _, fun b T xs h _ => ⟨xs, h, fun j u hu => ⟨u, hu, .inl rfl⟩⟩⟩
theorem Mk.trans {S : Nat → Prop} {a b c : World} (h : Mk S a b) (k : Mk S b c) : Mk S a c := by
  refine ⟨h.only.trans k.only, fun g T xs hb hS => ?_⟩
  obtain ⟨ys, h1, h2⟩ := h.sim g T xs hb hS
  obtain ⟨zs, h3, h4⟩ := k.sim g T ys h1 hS
  refine ⟨zs, h3, fun j u hu => ?_⟩
  obtain ⟨u', h5, h6⟩ := h2 j u hu
  obtain ⟨u'', h7, h8⟩ := h4 j u' h5
  exact ⟨u'', h7, h6.trans h8⟩
theorem mk_below {S : Nat → Prop} {w w' : World} (h : Below w.heap.size w w') : Mk S w w' := ⟨only_of_below h S, fun b T xs hb _ => ⟨xs, hb.below h, fun j u hu => ⟨u, hu, .inl rfl⟩⟩⟩
theorem mk_set {S : Nat → Prop} {w : World} {b o : Nat} {T : TypeId} {xs : List Value} {x y : Value} (hb : Bk w b T xs) (hS : S b) (hx : xs[o]? = some x) (hs : simV x y) : Mk S w (w.setCell ⟨b, o, none⟩ y) := by
  refine ⟨only_set hS y, fun g T' zs hg _ => ?_⟩
  by_cases e : g = b
  · subst e
    refine ⟨_, hg.set o y, fun j u hu => ?_⟩
    have hz : some (Obj.cells xs.toArray T (0, 0)) = some (Obj.cells zs.toArray T' (0, 0)) := hb.symm.trans hg
    simp at hz
    obtain ⟨rfl, rfl⟩ := hz
    by_cases ej : j = o
    · subst ej
      rw [hx] at hu
      cases hu
      exact ⟨y, by simp [(List.getElem?_eq_some_iff.1 hx).1], hs⟩
    · exact ⟨u, by rw [List.getElem?_set_ne (Ne.symm ej)]; exact hu, .inl rfl⟩
  · exact ⟨zs, hg.setOther e _ _, fun j u hu => ⟨u, hu, .inl rfl⟩⟩
theorem Uf.bk {w : World} {b : Nat} (h : Uf w b) : ∃ T xs, Bk w b T xs := by
  obtain ⟨xs, T, h⟩ := h
  exact ⟨T, xs.toList, by show _ = _; simpa using h⟩
theorem Mk.uf {S : Nat → Prop} {w w' : World} (m : Mk S w w') {b : Nat} (h : Uf w b) : Uf w' b := by
  obtain ⟨T, xs, hb⟩ := h.bk
  by_cases hS : S b
  · obtain ⟨ys, h1, _⟩ := m.sim b T xs hb hS
    exact h1.uf
  · exact (hb.to m.only hS).uf
theorem bk_cell {w : World} {b o : Nat} {T : TypeId} {xs : List Value} {u : Value} (h : Bk w b T xs) (hc : w.cell? ⟨b, o, none⟩ = some u) : xs[o]? = some u := by
  have h' : w.heap[b]? = some (.cells xs.toArray T (0, 0)) := h
  simpa [World.cell?, h'] using hc
theorem Mk.cell {S : Nat → Prop} {w w' : World} (m : Mk S w w') {b o : Nat} {u : Value} (hu : Uf w b) (hc : w.cell? ⟨b, o, none⟩ = some u) : ∃ u', w'.cell? ⟨b, o, none⟩ = some u' ∧ simV u u' := by
  obtain ⟨T, xs, hb⟩ := hu.bk
  have hx := bk_cell hb hc
  by_cases hS : S b
  · obtain ⟨ys, h1, h2⟩ := m.sim b T xs hb hS
    obtain ⟨u', h3, h4⟩ := h2 o u hx
    exact ⟨u', h1.cell h3, h4⟩
  · exact ⟨u, (hb.to m.only hS).cell hx, .inl rfl⟩
/-- The slice value v leads to n elements of m cells of the kind K, in a row of S that may be written. -/
def Kw (w : World) (S : Nat → Prop) (v : Value) (n m : Nat) (K : Value → Prop) : Prop :=
  ∃ a c, v = .slice a n c ∧ n ≤ c ∧ c ≤ 9223372036854775807 ∧ (0 < n → ∃ b off, a = some ⟨b, off, none⟩ ∧ S b ∧ Uf w b ∧ ∀ j, j < m → ∃ u, w.cell? ⟨b, off + j, none⟩ = some u ∧ K u)
theorem Kw.mk {S S' : Nat → Prop} {w w' : World} {v : Value} {n m : Nat} {K : Value → Prop} (h : Kw w S v n m K) (hm : Mk S' w w') (hK : Kind K) : Kw w' S v n m K := by
  obtain ⟨a, c, h1, h2, h3, h4⟩ := h
  refine ⟨a, c, h1, h2, h3, fun hn => ?_⟩
  obtain ⟨b, off, h5, h6, h7, h8⟩ := h4 hn
  refine ⟨b, off, h5, h6, hm.uf h7, fun j hj => ?_⟩
  obtain ⟨u, h9, h10⟩ := h8 j hj
  obtain ⟨u', h11, h12⟩ := hm.cell h7 h9
  exact ⟨u', h11, hK _ _ h10 h12⟩
theorem kw_of {w : World} {S S' : Nat → Prop} {v : Value} {n : Nat} {xs : List Value} {K : Value → Prop} (h : Rw w S v n xs) (hx : ∀ u ∈ xs, K u) (hS : ∀ b, S b → b < w.heap.size → S' b ∧ Uf w b) : Kw w S' v n xs.length K := by
  obtain ⟨a, c, h1, h2, h3, h4, hn, h5⟩ := h
  refine ⟨a, c, h1, h2, h3, fun hp => ?_⟩
  obtain ⟨b, off, h6, h7, h8, h9⟩ := h5 hp
  refine ⟨b, off, h6, (hS b h8 h7).1, (hS b h8 h7).2, fun j hj => ?_⟩
  exact ⟨xs[j], h9 j _ (by simp [hj]), hx _ (by simp)⟩
/-- Of the m cells from off on the first i are V's. -/
def Mi (w : World) (b off m i : Nat) (V : Nat → Value) (K : Value → Prop) : Prop := ∃ T xs, Bk w b T xs ∧ (∀ j, j < m → ∃ u, xs[off + j]? = some u ∧ K u) ∧ ∀ j, j < i → xs[off + j]? = some (V j)
theorem Mi.start {w : World} {b off m : Nat} {V : Nat → Value} {K : Value → Prop} (hu : Uf w b) (h : ∀ j, j < m → ∃ u, w.cell? ⟨b, off + j, none⟩ = some u ∧ K u) : Mi w b off m 0 V K := by
  obtain ⟨T, xs, hb⟩ := hu.bk
  refine ⟨T, xs, hb, fun j hj => ?_, fun j hj => absurd hj (Nat.not_lt_zero _)⟩
  obtain ⟨u, h1, h2⟩ := h j hj
  exact ⟨u, bk_cell hb h1, h2⟩
theorem Mi.below {w w' : World} {b off m i : Nat} {V : Nat → Value} {K : Value → Prop} (h : Mi w b off m i V K) (hb : Below w.heap.size w w') : Mi w' b off m i V K := by
  obtain ⟨T, xs, h1, h2, h3⟩ := h
  exact ⟨T, xs, h1.below hb, h2, h3⟩
theorem Mi.cell {w : World} {b off m i : Nat} {V : Nat → Value} {K : Value → Prop} (h : Mi w b off m i V K) {j : Nat} (hj : j < m) : (∃ u, w.cell? ⟨b, off + j, none⟩ = some u ∧ K u) ∧ w.frozen? ⟨b, off + j, none⟩ = false := by
  obtain ⟨T, xs, h1, h2, h3⟩ := h
  obtain ⟨u, h4, h5⟩ := h2 j hj
  exact ⟨⟨u, h1.cell h4, h5⟩, h1.free _⟩
theorem Mi.set {w : World} {b off m i : Nat} {V : Nat → Value} {K : Value → Prop} (h : Mi w b off m i V K) {o : Nat} (ho : o = off + i) (hi : i < m) (hK : K (V i)) : Mi (w.setCell ⟨b, o, none⟩ (V i)) b off m (i + 1) V K := by
  subst ho
  obtain ⟨T, xs, h1, h2, h3⟩ := h
  refine ⟨T, _, h1.set _ _, fun j hj => ?_, fun j hj => ?_⟩
  · obtain ⟨u, h4, h5⟩ := h2 j hj
    by_cases e : j = i
    · subst e
      exact ⟨V j, by simp [(List.getElem?_eq_some_iff.1 h4).1], hK⟩
    · exact ⟨u, by rw [List.getElem?_set_ne (by omega)]; exact h4, h5⟩
  · by_cases e : j = i
    · subst e
      obtain ⟨u, h4, _⟩ := h2 j hi
      simp [(List.getElem?_eq_some_iff.1 h4).1]
    · rw [List.getElem?_set_ne (by omega)]
      exact h3 j (by omega)
end Go.Proofs.YtbaggkfgnjenoacDoor
/-
  The law's helpers that write marks into slices: of pairs, of texts, of numbers.
-/
namespace Go.Proofs.YtbaggkfgnjenoacDoor
open Go.RowKit
def mV (k : Nat) (j : Nat) : Value := .string (mt (k + j))
def mI (k : Nat) (j : Nat) : Value := .int .i64 ((k + j : Nat) : Int)
theorem mi_mk {S : Nat → Prop} {w : World} {b off m i : Nat} {V : Nat → Value} {K : Value → Prop} (h : Mi w b off m i V K) (hS : S b) {o : Nat} (ho : o = off + i) (hi : i < m) (hs : ∀ u, K u → simV u (V i)) : Mk S w (w.setCell ⟨b, o, none⟩ (V i)) := by
  subst ho
  obtain ⟨T, xs, h1, h2, h3⟩ := h
  obtain ⟨u, h4, h5⟩ := h2 i hi
  exact mk_set h1 hS h4 (hs u h5)
theorem sim_mV (k i : Nat) : ∀ u, isStr u → simV u (mV k i) := fun _ hu => .inr (.inl ⟨hu, _, rfl⟩)
theorem sim_mI (k i : Nat) : ∀ u, isInt u → simV u (mI k i) := fun _ hu => .inr (.inr ⟨hu, _, rfl⟩)
/-- What comes of writing marks into the m cells of a slice. -/
def Marked (S : Nat → Prop) (w : World) (a : Option Addr) (n m : Nat) (V : Nat → Value) (K : Value → Prop) (w' : World) : Prop := Mk S w w' ∧ (0 < n → ∃ b off, a = some ⟨b, off, none⟩ ∧ S b ∧ Mi w' b off m m V K)
end Go.Proofs.YtbaggkfgnjenoacDoor
/-
  The law's helper that looks for marks in a slice of pairs: it finds them all.
-/
namespace Go.Proofs.YtbaggkfgnjenoacDoor
open Go.RowKit
theorem kc1 {u v : World} {a0 : Addr} {x0 : Value} (h : KC u v [(a0, x0)]) : v.cell? a0 = some x0 ∧ KC u v [(a0, x0)] := ⟨h.at (by simp), h⟩
theorem kc0_1 {u : World} {a0 : Addr} {x0 : Value} (h0 : u.cell? a0 = some x0) : KC u u [(a0, x0)] := ⟨fun p hp => by simp at hp; rcases hp with rfl; assumption, Below.refl _ _⟩
theorem kc1c {u v v' : World} {a0 : Addr} {x0 : Value} (k : Below v.heap.size v v') (h : v.cell? a0 = some x0 ∧ KC u v [(a0, x0)]) : v'.cell? a0 = some x0 ∧ KC u v' [(a0, x0)] := kc1 (KC.call h.2 k)
/-- The marks lie there. -/
def Lies (w : World) (a : Option Addr) (n m : Nat) (V : Nat → Value) : Prop := 0 < n → ∃ b off, a = some ⟨b, off, none⟩ ∧ b < w.heap.size ∧ ∀ j, j < m → w.cell? ⟨b, off + j, none⟩ = some (V j)
theorem Lies.below {w w' : World} {a : Option Addr} {n m : Nat} {V : Nat → Value} (h : Lies w a n m V) (hb : Below w.heap.size w w') : Lies w' a n m V := by
  intro hn
  obtain ⟨b, off, h1, h2, h3⟩ := h hn
  exact ⟨b, off, h1, Nat.lt_of_lt_of_le h2 hb.size, fun j hj => by rw [hb.cell (p := ⟨b, off + j, none⟩) h2]; exact h3 j hj⟩
theorem Marked.lies {S : Nat → Prop} {w w' : World} {a : Option Addr} {n m : Nat} {V : Nat → Value} {K : Value → Prop} (h : Marked S w a n m V K w') : Lies w' a n m V := by
  intro hn
  obtain ⟨b, off, h1, _, T, xs, h2, _, h3⟩ := h.2 hn
  exact ⟨b, off, h1, h2.lt, fun j hj => h2.cell (h3 j hj)⟩
end Go.Proofs.YtbaggkfgnjenoacDoor
/-
  What the law's helpers markByteS and heldByteS do: the one writes marks into every byte of a slice and nowhere else; the other finds them all.
-/
namespace Go.Proofs.YtbaggkfgnjenoacDoor
open Go.RowKit

/-- The marks that are written from k on. -/
def marks (k : Int) (n : Nat) : List Int := (List.range n).map fun i : Nat => (k + (i : Int)) % 256
theorem marks_len (k : Int) (n : Nat) : (marks k n).length = n := by simp [marks]
theorem marks_at (k : Int) (n i : Nat) (h : i < n) : (marks k n)[i]?.getD 0 = (k + (i : Int)) % 256 := by simp [marks, h]
theorem marks_byte (k : Int) (n : Nat) : ∀ i : Nat, 0 ≤ (marks k n)[i]?.getD 0 ∧ (marks k n)[i]?.getD 0 ≤ 255 := by
  intro i
  by_cases h : i < n
  · rw [marks_at k n i h]; omega
  · rw [List.getElem?_eq_none (by rw [marks_len]; omega)]; simp

/-- The slice's cells may be written. -/
def Wb (w : World) (a : Option Addr) (n : Nat) : Prop := ∀ x, a = some x → ∀ i, i < n → w.frozen? ⟨x.block, x.off + i, none⟩ = false
theorem wb_new (w : World) (cs : Array Value) (t : TypeId) (n : Nat) : Wb (w.alloc (.cells cs t)) (some ⟨w.heap.size, 0, none⟩) n := by
  intro x hx i _
  cases hx
  exact World.frozen?_alloc_at (hn := rfl) ..
theorem Ob.wb {w : World} {B : Nat} {v : Value} {zs : List Int} (h : Ob w B v zs) {a : Option Addr} {n c : Nat} (hv : v = .slice a n c) (m : Nat) : Wb w a m := by
  intro x hx i _
  rcases h.2 with ⟨rfl, h0⟩ | ⟨g, cap, cur, rfl, hbg, hg, hnc, hcm, hcs, htake⟩
  · cases hv; cases hx
  · cases hv; cases hx
    simp [World.frozen?, hg]
theorem Wb.grown {w w' : World} {a : Option Addr} {n : Nat} {row : Option Nat} (h : Wb w a n) (hg : w.grownBy w' row) (hlt : ∀ x, a = some x → 0 < n → x.block < w.heap.size ∧ some x.block ≠ row) : Wb w' a n := by
  intro x hx i hi
  obtain ⟨h1, h2⟩ := hlt x hx (by omega)
  rw [World.frozen?_of_block (w := w) (a := ⟨x.block, x.off + i, none⟩) (hg.block x.block h1 h2)]
  exact h x hx i hi
theorem Wb.below {w w' : World} {B : Nat} {a : Option Addr} {n : Nat} (h : Wb w a n) (hB : Below B w w') (hlt : ∀ x, a = some x → 0 < n → x.block < B) : Wb w' a n := by
  intro x hx i hi
  rw [hB.frozen (p := ⟨x.block, x.off + i, none⟩) (hlt x hx (by omega))]
  exact h x hx i hi
theorem Rd.grown {w w' : World} {a : Option Addr} {n c : Nat} {zs : List Int} {row : Option Nat} (h : Rd w a n c zs) (hg : w.grownBy w' row) (hne : ∀ x, a = some x → some x.block ≠ row) : Rd w' a n c zs := by
  obtain ⟨h1, h2, h3, h30, h4, h5⟩ := h
  refine ⟨h1, h2, h3, h30, h4, fun hp => ?_⟩
  obtain ⟨b, off, rfl, hb, hc⟩ := h5 hp
  refine ⟨b, off, rfl, Nat.lt_of_lt_of_le hb hg.size, fun i hi => ?_⟩
  rw [World.cell?_of_block (w := w) (a := ⟨b, off + i, none⟩) (hg.block b hb (hne _ rfl))]
  exact hc i hi
theorem grownBy_refl (w : World) (row : Option Nat) : w.grownBy w row := ⟨rfl, rfl, rfl, Nat.le_refl _, fun _ _ _ => rfl⟩
theorem grownBy_setCell {w w' : World} {b : Nat} (h : w.grownBy w' (some b)) (o : Nat) (v : Value) : w.grownBy (w'.setCell ⟨b, o, none⟩ v) (some b) :=
  ⟨h.os, h.tape, h.output, by simp [World.setCell]; exact h.size, fun k hk hne => by rw [Below.heap_setCell _ _ _ _ (fun e => hne (by rw [e]))]; exact h.block k hk hne⟩

end Go.Proofs.YtbaggkfgnjenoacDoor
