/-
  Keys and ranges: what the program's functions and the specification's answer, for all strings.
-/
import Derived.Test.YtcpdedpgjaimkaaBase
import Derived.Test.YtcpdedpgjaimkaaOrd
import Derived.Test.YtcpdedpgjaimkaaKV
import Derived.Deep.RegionHeld3
import Derived.Laws.Cover1
namespace Go.Proofs.Ytcpdedpgjaimkaa
open Go.RowKit

def rng (lo hi : ByteArray) : Value := .agg #[.string lo, .string hi]
/-- Whether s lies ahead of the end hi. -/
def ahd (s hi : ByteArray) : Bool := decide (hi.toList = []) || Op.bytesLess s.toList hi.toList
def endV (hi : ByteArray) : Value := if hi.toList = [] then .iface 175 (.agg #[]) else .iface 173 (.string hi)

theorem as_key (v : Value) (w : World) : (Instr.typeAssert (.iface 173 v) 98 173 true).run Try.prog w = .ok (.tuple #[v, .bool true]) w := by
  simp [Instr.typeAssert, run_underlying Try.underlying173]
theorem as_key_no (v : Value) (w : World) : (Instr.typeAssert (.iface 175 v) 98 173 true).run Try.prog w = .ok (.tuple #[.string ByteArray.empty, .bool false]) w := by
  have hz : (zeroValue 173).run Try.prog w = .ok (.string ByteArray.empty) w := by kernel_rfl
  simp [Instr.typeAssert, run_underlying Try.underlying173, hz]
theorem as_no (v : Value) (w : World) : (Instr.typeAssert (.iface 175 v) 98 175 true).run Try.prog w = .ok (.tuple #[v, .bool true]) w := by
  simp [Instr.typeAssert, run_underlying Try.underlying175]

theorem endOf_any (lo hi : ByteArray) (w : World) :
    Calls Try.prog 48 #[rng lo hi] w fun e w' => e = .returned (endV hi) ∧ Below w.heap.size w w' := by
  unfold rng
  have hb : Below w.heap.size w (w.alloc (Obj.cells #[Value.string lo, Value.string hi] 27)) := (Below.refl _ _).alloc (Nat.le_refl _) _
  by_cases h : hi.toList = []
  · have HE : Hid (endV hi = .iface 175 (.agg #[])) := if_pos h
    go_enter Try.func48, Try.ntmps48
    go_wp2
    go_ret
    exact ⟨by rw [HE.out]; rfl, hb⟩
  · have HE : Hid (endV hi = .iface 173 (.string hi)) := if_neg h
    have h2 : hi.toList.isEmpty = false := by simpa using h
    go_enter Try.func48, Try.ntmps48
    go_wp2
    go_ret
    exact ⟨by rw [HE.out]; rfl, hb⟩
theorem isAhead_any (s hi : ByteArray) (w : World) :
    Calls Try.prog 47 #[.string s, endV hi] w fun e w' => e = .returned (.bool (ahd s hi)) ∧ Below w.heap.size w w' := by
  by_cases h : hi.toList = []
  · have HE : Hid (ahd s hi = true) := by show ahd s hi = true; simp [ahd, h]
    rw [show endV hi = .iface 175 (.agg #[]) from if_pos h]
    clear h
    have h1 := as_key_no (.agg #[])
    have h2 := as_no (.agg #[])
    go_enter Try.func47, Try.ntmps47
    go_wp2
    go_ret
    exact ⟨by rw [HE.out]; rfl, (Below.refl _ _).alloc (Nat.le_refl _) _⟩
  · have HE : Hid (ahd s hi = Op.bytesLess s.toList hi.toList) := by show ahd s hi = Op.bytesLess s.toList hi.toList; simp [ahd, h]
    rw [show endV hi = .iface 173 (.string hi) from if_neg h]
    clear h
    have h1 := as_key (.string hi)
    go_enter Try.func47, Try.ntmps47
    go_wp2
    go_ret
    exact ⟨by rw [HE.out]; rfl, Below.refl _ _⟩

/-- A range that lies in a new block, kept. -/
theorem s2 {w w1 : World} {lo hi : ByteArray} {T : TypeId} (h : Below (w.alloc (.cells #[.string lo, .string hi] T)).heap.size (w.alloc (.cells #[.string lo, .string hi] T)) w1) :
    w1.cell? ⟨w.heap.size, 0, none⟩ = some (.string lo) ∧ w1.cell? ⟨w.heap.size, 1, none⟩ = some (.string hi) ∧ Below (w.alloc (.cells #[.string lo, .string hi] T)).heap.size (w.alloc (.cells #[.string lo, .string hi] T)) w1 := by
  refine ⟨?_, ?_, h⟩
  · rw [h.cell (p := ⟨w.heap.size, 0, none⟩) (by simp), World.cell?_alloc_at (hn := rfl)]; rfl
  · rw [h.cell (p := ⟨w.heap.size, 1, none⟩) (by simp), World.cell?_alloc_at (hn := rfl)]; rfl
theorem s2k {w w1 w2 : World} {lo hi : ByteArray} {T : TypeId} (h2 : Below w1.heap.size w1 w2)
    (h : w1.cell? ⟨w.heap.size, 0, none⟩ = some (.string lo) ∧ w1.cell? ⟨w.heap.size, 1, none⟩ = some (.string hi) ∧ Below (w.alloc (.cells #[.string lo, .string hi] T)).heap.size (w.alloc (.cells #[.string lo, .string hi] T)) w1) :
    w2.cell? ⟨w.heap.size, 0, none⟩ = some (.string lo) ∧ w2.cell? ⟨w.heap.size, 1, none⟩ = some (.string hi) ∧ Below (w.alloc (.cells #[.string lo, .string hi] T)).heap.size (w.alloc (.cells #[.string lo, .string hi] T)) w2 :=
  s2 (h.2.2.trans (h2.mono h.2.2.size))
def rOk (lo hi : ByteArray) : Bool := decide (lo.size ≤ 17) && decide (hi.size ≤ 17) && ahd lo hi
def rHas (lo hi k : ByteArray) : Bool := rOk lo hi && kOk k && !Op.bytesLess k.toList lo.toList && ahd k hi

theorem implRangeOk_any (lo hi : ByteArray) (w : World) : Calls Try.prog 45 #[rng lo hi] w fun e w' => e = .returned (.bool (rOk lo hi)) ∧ Below w.heap.size w w' := by
  show Calls Try.prog 45 #[.agg #[.string lo, .string hi]] w _
  by_cases h : lo.size ≤ 17
  · have h' : (lo.size : Int) ≤ 17 := by omega
    by_cases h2 : hi.size ≤ 17
    · have h2' : (hi.size : Int) ≤ 17 := by omega
      have HE : Hid (rOk lo hi = ahd lo hi) := by show rOk lo hi = ahd lo hi; simp [rOk, h, h2]
      go_enter Try.func45, Try.ntmps45
      go_wp2_with fail
      go_region_held3 (fun w' => w'.cell? ⟨w.heap.size, 0, none⟩ = some (.string lo) ∧ w'.cell? ⟨w.heap.size, 1, none⟩ = some (.string hi) ∧ Below (w.alloc (.cells #[.string lo, .string hi] 27)).heap.size (w.alloc (.cells #[.string lo, .string hi] 27)) w') (first | exact s2 (below_drew _) | exact s2k hbC (by assumption))
        (first
          | (go_at_call 48; refine (endOf_any lo hi _).mono ?_; rintro e w' ⟨rfl, hbC⟩)
          | (go_at_call 47; refine (isAhead_any lo hi _).mono ?_; rintro e w' ⟨rfl, hbC⟩))
      rename_i hS
      have hB := hS.2.2
      clear hS
      go_wp2
      go_ret
      exact ⟨by rw [HE.out]; rfl, below_new hB⟩
    · have h2' : decide ((hi.size : Int) ≤ 17) = false := decide_eq_false (by omega)
      have HE : Hid (rOk lo hi = false) := by show rOk lo hi = false; simp [rOk, h2]
      go_enter Try.func45, Try.ntmps45
      go_wp2_with fail
      go_quiet (fail)
      go_wp2
      go_ret
      exact ⟨by rw [HE.out]; rfl, below_new (Below.drewN' (Below.refl _ _) _)⟩
  · have h' : decide ((lo.size : Int) ≤ 17) = false := decide_eq_false (by omega)
    have HE : Hid (rOk lo hi = false) := by show rOk lo hi = false; simp [rOk, h]
    go_enter Try.func45, Try.ntmps45
    go_wp2_with fail
    go_quiet (fail)
    go_wp2
    go_ret
    exact ⟨by rw [HE.out]; rfl, below_new (Below.drewN' (Below.refl _ _) _)⟩
theorem implRangeHas_any (lo hi k : ByteArray) (w : World) : Calls Try.prog 11 #[rng lo hi, .string k] w fun e w' => e = .returned (.bool (rHas lo hi k)) ∧ Below w.heap.size w w' := by
  show Calls Try.prog 11 #[.agg #[.string lo, .string hi], .string k] w _
  have HD : Hid (rHas lo hi k = (rOk lo hi && kOk k && !Op.bytesLess k.toList lo.toList && ahd k hi)) := rfl
  go_enter Try.func11, Try.ntmps11
  go_wp2_with fail
  refine (implRangeOk_any lo hi _).mono ?_
  rintro e w1 ⟨rfl, hb1⟩
  obtain ⟨c0, c1, hb1⟩ := s2 hb1
  cases h1 : rOk lo hi
  · rw [h1] at HD
    go_wp2
    go_ret
    exact ⟨by rw [HD.out]; rfl, below_new hb1⟩
  · rw [h1] at HD
    go_wp2_with fail
    refine (implKeyOk_any k _).mono ?_
    rintro e w1' ⟨rfl, rfl⟩
    cases h2 : kOk k
    · rw [h2] at HD
      go_wp2
      go_ret
      exact ⟨by rw [HD.out]; rfl, below_new hb1⟩
    · rw [h2] at HD
      cases h3 : Op.bytesLess k.toList lo.toList
      · rw [h3] at HD
        go_wp2_with fail
        refine (endOf_any lo hi _).mono ?_
        rintro e w2 ⟨rfl, hb2⟩
        go_wp2_with fail
        refine (isAhead_any k hi _).mono ?_
        rintro e w3 ⟨rfl, hb3⟩
        go_wp2
        go_ret
        exact ⟨by rw [HD.out]; rfl, below_new ((hb1.trans (hb2.mono hb1.size)).trans (hb3.mono (Nat.le_trans hb1.size hb2.size)))⟩
      · rw [h3] at HD
        go_wp2
        go_ret
        exact ⟨by rw [HD.out]; rfl, below_new hb1⟩
end Go.Proofs.Ytcpdedpgjaimkaa

