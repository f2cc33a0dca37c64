/-
  The program's writer: what its methods fail and add do to it, for every state of the writer.
-/
import Derived.Test.YtijinngmfalfcabDoorApp
import Derived.Test.YtijinngmfalfcabDoorPlain
namespace Go.Proofs.YtijinngmfalfcabDoor
open Go.RowKit

/-- Block g is a writer that gathers at most 'most' bytes: it holds the bytes zs (st = some zs), or an error (st = none). -/
def Wr (w : World) (g most : Nat) (st : Option (List Int)) : Prop :=
  ∃ v ev zs, w.cell? ⟨g, 0, none⟩ = some v ∧ w.cell? ⟨g, 1, none⟩ = some (.int .i64 most) ∧ w.cell? ⟨g, 2, none⟩ = some ev ∧
    w.frozen? ⟨g, 0, none⟩ = false ∧ w.frozen? ⟨g, 2, none⟩ = false ∧ Ob w (g + 1) v zs ∧ zs.length ≤ most ∧ most ≤ 1099511627776 ∧ (∀ z ∈ zs, 0 ≤ z ∧ z ≤ 255) ∧
    ((ev = .nilIface ∧ st = some zs) ∨ ((∃ t x, ev = .iface t x) ∧ st = none))

/-- The variable at block v holds an error. -/
def Err (w : World) (v : Nat) : Prop := ∃ t x, w.cell? ⟨v, 0, none⟩ = some (.iface t x)
theorem Err.below {w w' : World} {v g : Nat} (h : Err w v) (hb : Below g w w') (hv : v < g) : Err w' v := by
  obtain ⟨t, x, hc⟩ := h
  exact ⟨t, x, by rw [hb.cell (p := ⟨v, 0, none⟩) hv]; exact hc⟩

def addSt (most : Nat) : Option (List Int) → List Int → Option (List Int)
  | none, _ => none
  | some zs, ys => if zs.length + ys.length ≤ most then some (zs ++ ys) else none

theorem Ob.drewN {w : World} {B : Nat} {v : Value} {zs : List Int} (h : Ob w B v zs) (q : Nat) : Ob (w.drewN q) B v zs := h
theorem Rd.drewN {w : World} {a : Option Addr} {n c : Nat} {zs : List Int} (h : Rd w a n c zs) (q : Nat) : Rd (w.drewN q) a n c zs := h

set_option maxHeartbeats 400000 in
theorem fail_set (g : Nat) (t : TypeId) (x : Value) (w : World) (h : w.cell? ⟨g, 2, none⟩ = some .nilIface) (hf : w.frozen? ⟨g, 2, none⟩ = false) :
    Calls Tryd.prog 91 #[.pointer (some ⟨g, 0, none⟩), .iface t x] w fun e w' => e = .returned (.tuple #[]) ∧ w' = w.setCell ⟨g, 2, none⟩ (.iface t x) := by
  go_enter Tryd.func91, Tryd.ntmps91
  go_wp2
  go_end0
  exact ⟨rfl, rfl⟩
set_option maxHeartbeats 400000 in
theorem fail_keep (g : Nat) (t : TypeId) (x : Value) (w : World) (y : TypeId) (z : Value) (h : w.cell? ⟨g, 2, none⟩ = some (.iface y z)) :
    Calls Tryd.prog 91 #[.pointer (some ⟨g, 0, none⟩), .iface t x] w fun e w' => e = .returned (.tuple #[]) ∧ w = w' := by
  go_enter Tryd.func91, Tryd.ntmps91
  go_wp2
  go_end0
  exact ⟨rfl, rfl⟩
/-- What is kept of a writer where its error alone is set. -/
theorem wr_failed {w : World} {g most : Nat} {zs : List Int} {v : Value} {t : TypeId} {x : Value} (c0 : w.cell? ⟨g, 0, none⟩ = some v) (c1 : w.cell? ⟨g, 1, none⟩ = some (.int .i64 most)) (c2 : w.cell? ⟨g, 2, none⟩ = some .nilIface)
    (f0 : w.frozen? ⟨g, 0, none⟩ = false) (f2 : w.frozen? ⟨g, 2, none⟩ = false) (ho : Ob w (g + 1) v zs) (hl : zs.length ≤ most) (hm : most ≤ 1099511627776) (hb : ∀ z ∈ zs, 0 ≤ z ∧ z ≤ 255) :
    Wr (w.setCell ⟨g, 2, none⟩ (.iface t x)) g most none := by
  refine ⟨v, .iface t x, zs, ?_, ?_, ?_, ?_, ?_, ownsRow_setCell_below ho (by simp) _, hl, hm, hb, .inr ⟨⟨t, x, rfl⟩, rfl⟩⟩
  · rw [World.cell?_setCell_other (h := by simp)]; exact c0
  · rw [World.cell?_setCell_other (h := by simp)]; exact c1
  · exact World.cell?_setCell_same _ _ _ c2
  · simp [f0]
  · simp [f2]

theorem Wr.drewN {w : World} {g most : Nat} {st : Option (List Int)} (h : Wr w g most st) (q : Nat) : Wr (w.drewN q) g most st := h
theorem Wr.lt {w : World} {g most : Nat} {st : Option (List Int)} (h : Wr w g most st) : g < w.heap.size := by
  obtain ⟨v, ev, zs, c0, _⟩ := h
  exact block_lt c0
/-- A writer keeps in a world that has kept its block and its row. -/
theorem Wr.alloc {w : World} {g most : Nat} {st : Option (List Int)} (h : Wr w g most st) (o : Obj) : Wr (w.alloc o) g most st := by
  have hlt := h.lt
  obtain ⟨v, ev, zs, c0, c1, c2, f0, f2, ho, hr⟩ := h
  exact ⟨v, ev, zs, by rw [World.cell?_alloc_past (hn := hlt)]; exact c0, by rw [World.cell?_alloc_past (hn := hlt)]; exact c1, by rw [World.cell?_alloc_past (hn := hlt)]; exact c2,
    by rw [World.frozen?_alloc_past (hn := hlt)]; exact f0, by rw [World.frozen?_alloc_past (hn := hlt)]; exact f2, ho.alloc o, hr⟩

set_option maxHeartbeats 800000 in
theorem add_any (g most : Nat) (st : Option (List Int)) (a : Option Addr) (n c : Nat) (ys : List Int) (w : World) (h : Wr w g most st) (he : Err w 0) (hs : Rd w a n c ys) (hn : n ≤ 1099511627776) :
    Calls Tryd.prog 81 #[.pointer (some ⟨g, 0, none⟩), .slice a n c] w fun e w' => e = .returned (.tuple #[]) ∧ Below g w w' ∧ Wr w' g most (addSt most st ys) := by
  have HW := hid h
  have HS := hid hs
  have HN : Hid (n = ys.length) := hs.1
  have hyb := at_byte hs.2.2.2.2.1
  have HY := hid hyb
  have hlt := h.lt
  obtain ⟨v, ev, zs, c0, c1, c2, f0, f2, ho, hl, hm, hb, hst⟩ := h
  obtain ⟨t, x, hx⟩ := he
  obtain ⟨va, vc, hv⟩ := ho.shape
  have HO := hid ho
  have HB := hid hb
  have HV := hid hv
  rw [hv] at c0
  generalize hL : zs.length = L at hv hl c0
  have HL := hid hL
  clear ho hb hs hyb hL hv
  by_cases hbig : (most : Int) - (L : Int) < (n : Int)
  · rcases hst with ⟨rfl, rfl⟩ | ⟨⟨y, z, rfl⟩, rfl⟩
    · have HA : Hid (addSt most (some zs) ys = none) := by
        show addSt most (some zs) ys = none
        unfold addSt
        exact if_neg (by rw [HL.out, ← HN.out]; omega)
      go_enter Tryd.func81, Tryd.ntmps81
      go_wp2
      go_quiet (fail)
      go_wp2_with (go_at_call 91; refine (fail_set g t x _ (by simpa using c2) (by simpa using f2)).mono ?_)
      rintro e w1 ⟨rfl, hw1⟩
      have HW1 : Hid (Wr w1 g most none) := by
        show Wr w1 g most none
        rw [hw1]
        exact wr_failed (w := w.drewN nq) (by simpa [HV.out, HL.out] using c0) (by simpa using c1) (by simpa using c2) (by simpa using f0) (by simpa using f2) HO.out (by rw [HL.out]; exact hl) hm HB.out
      have hb1 : Below g w w1 := by rw [hw1]; exact Below.setCell (p := ⟨g, 2, none⟩) (Below.drewN' (Below.refl g w) nq) (Nat.le_refl g) _
      have d2 : w1.cell? ⟨g, 2, none⟩ = some (.iface t x) := by rw [hw1]; exact World.cell?_setCell_same _ _ _ (by simpa using c2)
      clear hw1
      go_wp2
      go_end0
      exact ⟨rfl, hb1, by rw [HA.out]; exact HW1.out⟩
    · go_enter Tryd.func81, Tryd.ntmps81
      go_wp2
      go_quiet (fail)
      go_wp2_with (go_at_call 91; refine (fail_keep g t x _ y z (by simpa using c2)).mono ?_)
      rintro e w1 ⟨rfl, rfl⟩
      go_wp2
      go_end0
      exact ⟨rfl, Below.drewN' (Below.refl _ _) nq, HW.out.drewN nq⟩
  · rcases hst with ⟨rfl, rfl⟩ | ⟨⟨y, z, rfl⟩, rfl⟩
    · have HA : Hid (addSt most (some zs) ys = some (zs ++ ys)) := by
        show addSt most (some zs) ys = some (zs ++ ys)
        unfold addSt
        exact if_pos (by rw [HL.out, ← HN.out]; omega)
      have HO' : Hid (Ob w (g + 1) (.slice va L vc) zs) := by show Ob w (g + 1) (.slice va L vc) zs; rw [← HL.out, ← HV.out]; exact HO.out
      go_enter Tryd.func81, Tryd.ntmps81
      go_wp2
      go_quiet (fail)
      go_wp2_with (at_builtin; refine wpList_append_rd rfl _ _ rfl (g + 1) _ zs rfl (HO'.out.drewN nq) a n c ys rfl (HS.out.drewN nq) ?b ?base ?_)
      case b => rw [HL.out, ← HN.out]; omega
      case base => simp; omega
      intro v2 w2 hown2 hg2
      have hb2 : Below (g + 1) w w2 := Ob.below (HO'.out.drewN nq) (Below.drewN' (Below.refl _ _) nq) (by simp; omega) hg2
      have HO2 := hid hown2
      obtain ⟨a2, k2, hv2⟩ := hown2.shape
      have d0 := (hb2.cell (p := ⟨g, 0, none⟩) (by simp)).trans c0
      have d1 := (hb2.cell (p := ⟨g, 1, none⟩) (by simp)).trans c1
      have d2 := (hb2.cell (p := ⟨g, 2, none⟩) (by simp)).trans c2
      have e0 := (hb2.frozen (p := ⟨g, 0, none⟩) (by simp)).trans f0
      have e2 := (hb2.frozen (p := ⟨g, 2, none⟩) (by simp)).trans f2
      generalize hL2 : (zs ++ ys).length = L2 at hv2
      have HL2 := hid hL2
      have HV2 := hid hv2
      clear hown2 hg2 hL2
      rw [hv2]
      clear hv2
      go_wp2
      go_end0
      refine ⟨rfl, Below.setCell (p := ⟨g, 0, none⟩) (hb2.mono (Nat.le_succ g)) (Nat.le_refl g) _, ?_⟩
      rw [HA.out]
      refine ⟨.slice a2 L2 k2, .nilIface, zs ++ ys, World.cell?_setCell_same _ _ _ d0, ?_, ?_, by simpa using e0, by simpa using e2, ?_, ?_, hm, byte_append HB.out HY.out, .inl ⟨rfl, rfl⟩⟩
      · rw [World.cell?_setCell_other (h := by simp)]; exact d1
      · rw [World.cell?_setCell_other (h := by simp)]; exact d2
      · rw [← HV2.out]; exact ownsRow_setCell_below HO2.out (by simp) _
      · rw [List.length_append, HL.out, ← HN.out]; omega
    · go_enter Tryd.func81, Tryd.ntmps81
      go_wp2
      go_quiet (fail)
      go_wp2
      go_end0
      exact ⟨rfl, Below.drewN' (Below.refl _ _) nq, HW.out.drewN nq⟩

set_option maxHeartbeats 400000 in
theorem addByte_any (g most : Nat) (st : Option (List Int)) (z : Int) (w : World) (h : Wr w g most st) (he : Err w 0) (hg : 0 < g) (h0 : 0 ≤ z) (h1 : z ≤ 255) :
    Calls Tryd.prog 80 #[.pointer (some ⟨g, 0, none⟩), .int .u8 z] w fun e w' => e = .returned (.tuple #[]) ∧ Below g w w' ∧ Wr w' g most (addSt most st [z]) := by
  have hlt := h.lt
  have HW := hid h
  have HE := hid he
  clear h he
  have hb1 : Below g w (w.alloc (.cells #[.int .u8 z] 5)) := (Below.refl _ _).alloc (Nat.le_of_lt hlt) _
  have HB := hid hb1
  clear hb1
  go_enter Tryd.func80, Tryd.ntmps80
  go_wp2_with (go_at_call 81; refine (add_any g most st _ 1 1 [z] _ (HW.out.alloc _) (HE.out.below HB.out hg) (rd_one w z h0 h1) (by omega)).mono ?_; rintro e w1 ⟨rfl, hb, hw⟩)
  go_end0
  exact ⟨rfl, HB.out.trans hb, hw⟩
theorem addSt_none (most : Nat) (ys : List Int) : addSt most none ys = none := rfl
theorem addSt_addSt (most : Nat) (st : Option (List Int)) (xs ys : List Int) : addSt most (addSt most st xs) ys = addSt most st (xs ++ ys) := by
  cases st with
  | none => rfl
  | some zs =>
    by_cases h : zs.length + xs.length ≤ most
    · have e : addSt most (some zs) xs = some (zs ++ xs) := by unfold addSt; exact if_pos h
      rw [e]
      unfold addSt
      simp [Nat.add_assoc]
    · have e : addSt most (some zs) xs = none := by unfold addSt; exact if_neg h
      have e2 : addSt most (some zs) (xs ++ ys) = none := by unfold addSt; exact if_neg (by rw [List.length_append]; omega)
      rw [e, e2, addSt_none]
theorem Wr.add_nil {w : World} {g most : Nat} {st : Option (List Int)} (h : Wr w g most st) : addSt most st [] = st := by
  obtain ⟨v, ev, zs, _, _, _, _, _, _, hl, _, _, ⟨_, rfl⟩ | ⟨_, rfl⟩⟩ := h
  · unfold addSt; simp [hl]
  · rfl

/-- What number does to the writer's state. -/
def numSt (most : Nat) (st : Option (List Int)) (n : Int) : Option (List Int) := if 0 ≤ n ∧ n ≤ 1099511627775 then addSt most st (enc n) else none

set_option maxHeartbeats 400000 in
/-- A new writer begins with a copy of the bytes. -/
theorem newWriter_any (most : Nat) (a : Option Addr) (n c : Nat) (ys : List Int) (w : World) (he : Err w 0) (hg : 0 < w.heap.size) (hs : Rd w a n c ys) (hn : n ≤ 1099511627776) (hm : most ≤ 1099511627776) :
    Calls Tryd.prog 79 #[.slice a n c, .int .i64 most] w fun e w' => e = .returned (.pointer (some ⟨w.heap.size, 0, none⟩)) ∧ Below w.heap.size w w' ∧ Wr w' w.heap.size most (addSt most (some []) ys) := by
  have HE := hid he
  have HS := hid hs
  have HG := hid hg
  clear he hs hg
  go_enter Tryd.func79, Tryd.ntmps79
  have hw0 : Wr (w.alloc (.cells #[.slice none 0 0, .int .i64 most, .nilIface] 115)) w.heap.size most (some []) := by
    refine ⟨.slice none 0 0, .nilIface, [], ?_, ?_, ?_, World.frozen?_alloc_at (hn := rfl) .., World.frozen?_alloc_at (hn := rfl) .., World.ownsRow_nil _ _ _ _, by simp, hm, by simp, .inl ⟨rfl, rfl⟩⟩
    · rw [World.cell?_alloc_at (hn := rfl)]; rfl
    · rw [World.cell?_alloc_at (hn := rfl)]; rfl
    · rw [World.cell?_alloc_at (hn := rfl)]; rfl
  have hb0 : Below w.heap.size w (w.alloc (.cells #[.slice none 0 0, .int .i64 most, .nilIface] 115)) := (Below.refl _ _).alloc (Nat.le_refl _) _
  have HW0 := hid hw0
  have HB0 := hid hb0
  clear hw0 hb0
  go_wp2_with (go_at_call 81; refine (add_any w.heap.size most (some []) a n c ys _ HW0.out (HE.out.below HB0.out HG.out) (HS.out.kept HB0.out) hn).mono ?_; rintro e w1 ⟨rfl, hb1, hw1⟩)
  go_ret
  exact ⟨rfl, HB0.out.trans hb1, hw1⟩

set_option maxHeartbeats 400000 in
theorem told_none (g most : Nat) (w : World) (h : Wr w g most none) :
    Calls Tryd.prog 83 #[.pointer (some ⟨g, 0, none⟩)] w fun e w' => e = .returned (.tuple #[.slice none 0 0, .bool false]) ∧ w = w' := by
  obtain ⟨v, ev, zs, c0, c1, c2, f0, f2, ho, hl, hm, hb, ⟨_, h⟩ | ⟨⟨t, x, rfl⟩, _⟩⟩ := h
  · cases h
  · clear ho hb
    go_enter Tryd.func83, Tryd.ntmps83
    go_wp2
    go_ret2
    exact ⟨rfl, rfl⟩
set_option maxHeartbeats 400000 in
theorem told_some (g most : Nat) (out : List Int) (w : World) (h : Wr w g most (some out)) :
    Calls Tryd.prog 83 #[.pointer (some ⟨g, 0, none⟩)] w fun e w' => ∃ v, e = .returned (.tuple #[v, .bool true]) ∧ Ob w (g + 1) v out ∧ w = w' := by
  obtain ⟨v, ev, zs, c0, c1, c2, f0, f2, ho, hl, hm, hb, ⟨rfl, h⟩ | ⟨⟨t, x, rfl⟩, h⟩⟩ := h
  · cases h
    obtain ⟨va, vc, hv⟩ := ho.shape
    have HO := hid ho
    have HV := hid hv
    rw [hv] at c0
    clear ho hb hv
    go_enter Tryd.func83, Tryd.ntmps83
    go_wp2
    go_ret2
    exact ⟨_, rfl, by have := HO.out; rw [HV.out] at this; exact this, rfl⟩
  · cases h
end Go.Proofs.YtijinngmfalfcabDoor

