/-
  Keys and ranges: what the program's functions and the specification's answer, for all strings.
-/
import Derived.Test.YtpeaajencheamaaBase
import Derived.Test.YtpeaajencheamaaOrd
import Derived.Deep.RegionHeld3
import Derived.Laws.Cover1
namespace Go.Proofs.Ytpeaajencheamaa
open Go.RowKit

def rng (lo hi : ByteArray) : Value := .agg #[.string lo, .string hi]
/-- Whether s lies ahead of the end hi. -/
def ahd (s hi : ByteArray) : Bool := decide (hi.toList = []) || Op.bytesLess s.toList hi.toList
def endV (hi : ByteArray) : Value := if hi.toList = [] then .iface 69 (.agg #[]) else .iface 67 (.string hi)

theorem as_key (v : Value) (w : World) : (Instr.typeAssert (.iface 67 v) 59 67 true).run Try.prog w = .ok (.tuple #[v, .bool true]) w := by
  simp [Instr.typeAssert, run_underlying Try.underlying67]
theorem as_key_no (v : Value) (w : World) : (Instr.typeAssert (.iface 69 v) 59 67 true).run Try.prog w = .ok (.tuple #[.string ByteArray.empty, .bool false]) w := by
  have hz : (zeroValue 67).run Try.prog w = .ok (.string ByteArray.empty) w := by kernel_rfl
  simp [Instr.typeAssert, run_underlying Try.underlying67, hz]
theorem as_no (v : Value) (w : World) : (Instr.typeAssert (.iface 69 v) 59 69 true).run Try.prog w = .ok (.tuple #[v, .bool true]) w := by
  simp [Instr.typeAssert, run_underlying Try.underlying69]

theorem endOf_any (lo hi : ByteArray) (w : World) :
    Calls Try.prog 38 #[rng lo hi] w fun e w' => e = .returned (endV hi) ∧ Below w.heap.size w w' := by
  unfold rng
  have hb : Below w.heap.size w (w.alloc (Obj.cells #[Value.string lo, Value.string hi] 28)) := (Below.refl _ _).alloc (Nat.le_refl _) _
  by_cases h : hi.toList = []
  · have HE : Hid (endV hi = .iface 69 (.agg #[])) := if_pos h
    go_enter Try.func38, Try.ntmps38
    go_wp2
    go_ret
    exact ⟨by rw [HE.out]; rfl, hb⟩
  · have HE : Hid (endV hi = .iface 67 (.string hi)) := if_neg h
    have h2 : hi.toList.isEmpty = false := by simpa using h
    go_enter Try.func38, Try.ntmps38
    go_wp2
    go_ret
    exact ⟨by rw [HE.out]; rfl, hb⟩
theorem isAhead_any (s hi : ByteArray) (w : World) :
    Calls Try.prog 37 #[.string s, endV hi] w fun e w' => e = .returned (.bool (ahd s hi)) ∧ Below w.heap.size w w' := by
  by_cases h : hi.toList = []
  · have HE : Hid (ahd s hi = true) := by show ahd s hi = true; simp [ahd, h]
    rw [show endV hi = .iface 69 (.agg #[]) from if_pos h]
    clear h
    have h1 := as_key_no (.agg #[])
    have h2 := as_no (.agg #[])
    go_enter Try.func37, Try.ntmps37
    go_wp2
    go_ret
    exact ⟨by rw [HE.out]; rfl, (Below.refl _ _).alloc (Nat.le_refl _) _⟩
  · have HE : Hid (ahd s hi = Op.bytesLess s.toList hi.toList) := by show ahd s hi = Op.bytesLess s.toList hi.toList; simp [ahd, h]
    rw [show endV hi = .iface 67 (.string hi) from if_neg h]
    clear h
    have h1 := as_key (.string hi)
    go_enter Try.func37, Try.ntmps37
    go_wp2
    go_ret
    exact ⟨by rw [HE.out]; rfl, Below.refl _ _⟩

theorem str_empty {s : ByteArray} (h : s.toList = []) : s.size = 0 := by
  rw [ByteArray.toList_eq] at h
  show s.data.size = 0
  rw [← Array.length_toList, h]; rfl
theorem str_full {s : ByteArray} (h : ¬ s.toList = []) : 1 ≤ s.size := by
  rcases Nat.eq_zero_or_pos s.size with e | e
  · refine absurd ?_ h
    rw [ByteArray.toList_eq]
    exact List.eq_nil_of_length_eq_zero (by rw [Array.length_toList]; exact e)
  · exact e
/-- A range that lies in a new block, kept. -/
theorem s2 {w w1 : World} {lo hi : ByteArray} {T : TypeId} (h : Below (w.alloc (.cells #[.string lo, .string hi] T)).heap.size (w.alloc (.cells #[.string lo, .string hi] T)) w1) :
    w1.cell? ⟨w.heap.size, 0, none⟩ = some (.string lo) ∧ w1.cell? ⟨w.heap.size, 1, none⟩ = some (.string hi) ∧ Below (w.alloc (.cells #[.string lo, .string hi] T)).heap.size (w.alloc (.cells #[.string lo, .string hi] T)) w1 := by
  refine ⟨?_, ?_, h⟩
  · rw [h.cell (p := ⟨w.heap.size, 0, none⟩) (by simp), World.cell?_alloc_at (hn := rfl)]; rfl
  · rw [h.cell (p := ⟨w.heap.size, 1, none⟩) (by simp), World.cell?_alloc_at (hn := rfl)]; rfl
theorem s2k {w w1 w2 : World} {lo hi : ByteArray} {T : TypeId} (h2 : Below w1.heap.size w1 w2)
    (h : w1.cell? ⟨w.heap.size, 0, none⟩ = some (.string lo) ∧ w1.cell? ⟨w.heap.size, 1, none⟩ = some (.string hi) ∧ Below (w.alloc (.cells #[.string lo, .string hi] T)).heap.size (w.alloc (.cells #[.string lo, .string hi] T)) w1) :
    w2.cell? ⟨w.heap.size, 0, none⟩ = some (.string lo) ∧ w2.cell? ⟨w.heap.size, 1, none⟩ = some (.string hi) ∧ Below (w.alloc (.cells #[.string lo, .string hi] T)).heap.size (w.alloc (.cells #[.string lo, .string hi] T)) w2 :=
  s2 (h.2.2.trans (h2.mono h.2.2.size))
theorem below_drew (w : World) : Below w.heap.size w w.drew := ⟨rfl, rfl, rfl, Nat.le_refl _, fun _ _ => rfl⟩
theorem Below.then' {B : Nat} {w w1 w2 : World} (h : Below B w w1) (h2 : Below w1.heap.size w1 w2) (hB : B ≤ w.heap.size) : Below B w w2 := h.trans (h2.mono (Nat.le_trans hB h.size))
theorem below_new {w w1 : World} {o : Obj} (h : Below (w.alloc o).heap.size (w.alloc o) w1) : Below w.heap.size w w1 := ((Below.refl _ _).alloc (Nat.le_refl _) o).trans (h.mono (by simp))

def kOk (k : ByteArray) : Bool := decide (1 ≤ k.size) && decide (k.size ≤ 16)
def rOk (lo hi : ByteArray) : Bool := decide (lo.size ≤ 17) && decide (hi.size ≤ 17) && ahd lo hi
def rHas (lo hi k : ByteArray) : Bool := rOk lo hi && kOk k && !Op.bytesLess k.toList lo.toList && ahd k hi

theorem implKeyOk_any (k : ByteArray) (w : World) : Calls Try.prog 24 #[.string k] w fun e w' => e = .returned (.bool (kOk k)) ∧ w = w' := by
  by_cases h : k.toList = []
  · have HE : Hid (kOk k = false) := by show kOk k = false; simp [kOk, str_empty h]
    go_enter Try.func24, Try.ntmps24
    go_wp2
    go_ret
    exact ⟨by rw [HE.out]; rfl, rfl⟩
  · have h2 : k.toList.isEmpty = false := by simpa using h
    have h3 : 1 ≤ k.size := str_full h
    have HE : Hid (kOk k = decide (k.size ≤ 16)) := by show kOk k = decide (k.size ≤ 16); simp [kOk, h3]
    by_cases h4 : k.size ≤ 16
    · have h5 : (k.size : Int) ≤ 16 := by omega
      go_enter Try.func24, Try.ntmps24
      go_wp2
      go_ret
      exact ⟨by rw [HE.out, decide_eq_true h4]; rfl, rfl⟩
    · have h5 : ¬ (k.size : Int) ≤ 16 := by omega
      go_enter Try.func24, Try.ntmps24
      go_wp2
      go_ret
      exact ⟨by rw [HE.out, decide_eq_false h4]; rfl, rfl⟩
theorem specKeyOk_any (k : ByteArray) (w : World) : Calls Try.prog 23 #[.string k] w fun e w' => e = .returned (.bool (kOk k)) ∧ w = w' := by
  by_cases h3 : 1 ≤ k.size
  · have HE : Hid (kOk k = decide (k.size ≤ 16)) := by show kOk k = decide (k.size ≤ 16); simp [kOk, h3]
    have h4 : (1 : Int) ≤ (k.size : Int) := by omega
    by_cases h4 : k.size ≤ 16
    · have h5 : (k.size : Int) ≤ 16 := by omega
      go_enter Try.func23, Try.ntmps23
      go_wp2
      go_ret
      exact ⟨by rw [HE.out, decide_eq_true h4]; rfl, rfl⟩
    · have h5 : ¬ (k.size : Int) ≤ 16 := by omega
      go_enter Try.func23, Try.ntmps23
      go_wp2
      go_ret
      exact ⟨by rw [HE.out, decide_eq_false h4]; rfl, rfl⟩
  · have HE : Hid (kOk k = false) := by show kOk k = false; simp [kOk, h3]
    have h4 : ¬ (1 : Int) ≤ (k.size : Int) := by omega
    go_enter Try.func23, Try.ntmps23
    go_wp2
    go_ret
    exact ⟨by rw [HE.out]; rfl, rfl⟩
theorem implRangeOk_any (lo hi : ByteArray) (w : World) : Calls Try.prog 30 #[rng lo hi] w fun e w' => e = .returned (.bool (rOk lo hi)) ∧ Below w.heap.size w w' := by
  show Calls Try.prog 30 #[.agg #[.string lo, .string hi]] w _
  by_cases h : lo.size ≤ 17
  · have h' : (lo.size : Int) ≤ 17 := by omega
    by_cases h2 : hi.size ≤ 17
    · have h2' : (hi.size : Int) ≤ 17 := by omega
      have HE : Hid (rOk lo hi = ahd lo hi) := by show rOk lo hi = ahd lo hi; simp [rOk, h, h2]
      go_enter Try.func30, Try.ntmps30
      go_wp2_with fail
      go_region_held3 (fun w' => w'.cell? ⟨w.heap.size, 0, none⟩ = some (.string lo) ∧ w'.cell? ⟨w.heap.size, 1, none⟩ = some (.string hi) ∧ Below (w.alloc (.cells #[.string lo, .string hi] 28)).heap.size (w.alloc (.cells #[.string lo, .string hi] 28)) w') (first | exact s2 (below_drew _) | exact s2k hbC (by assumption))
        (first
          | (go_at_call 38; refine (endOf_any lo hi _).mono ?_; rintro e w' ⟨rfl, hbC⟩)
          | (go_at_call 37; refine (isAhead_any lo hi _).mono ?_; rintro e w' ⟨rfl, hbC⟩))
      rename_i hS
      have hB := hS.2.2
      clear hS
      go_wp2
      go_ret
      exact ⟨by rw [HE.out]; rfl, below_new hB⟩
    · have h2' : decide ((hi.size : Int) ≤ 17) = false := decide_eq_false (by omega)
      have HE : Hid (rOk lo hi = false) := by show rOk lo hi = false; simp [rOk, h2]
      go_enter Try.func30, Try.ntmps30
      go_wp2_with fail
      go_quiet (fail)
      go_wp2
      go_ret
      exact ⟨by rw [HE.out]; rfl, below_new (Below.drewN' (Below.refl _ _) _)⟩
  · have h' : decide ((lo.size : Int) ≤ 17) = false := decide_eq_false (by omega)
    have HE : Hid (rOk lo hi = false) := by show rOk lo hi = false; simp [rOk, h]
    go_enter Try.func30, Try.ntmps30
    go_wp2_with fail
    go_quiet (fail)
    go_wp2
    go_ret
    exact ⟨by rw [HE.out]; rfl, below_new (Below.drewN' (Below.refl _ _) _)⟩
theorem implRangeHas_any (lo hi k : ByteArray) (w : World) : Calls Try.prog 14 #[rng lo hi, .string k] w fun e w' => e = .returned (.bool (rHas lo hi k)) ∧ Below w.heap.size w w' := by
  show Calls Try.prog 14 #[.agg #[.string lo, .string hi], .string k] w _
  have HD : Hid (rHas lo hi k = (rOk lo hi && kOk k && !Op.bytesLess k.toList lo.toList && ahd k hi)) := rfl
  go_enter Try.func14, Try.ntmps14
  go_wp2_with fail
  refine (implRangeOk_any lo hi _).mono ?_
  rintro e w1 ⟨rfl, hb1⟩
  obtain ⟨c0, c1, hb1⟩ := s2 hb1
  cases h1 : rOk lo hi
  · rw [h1] at HD
    go_wp2
    go_ret
    exact ⟨by rw [HD.out]; rfl, below_new hb1⟩
  · rw [h1] at HD
    go_wp2_with fail
    refine (implKeyOk_any k _).mono ?_
    rintro e w1' ⟨rfl, rfl⟩
    cases h2 : kOk k
    · rw [h2] at HD
      go_wp2
      go_ret
      exact ⟨by rw [HD.out]; rfl, below_new hb1⟩
    · rw [h2] at HD
      cases h3 : Op.bytesLess k.toList lo.toList
      · rw [h3] at HD
        go_wp2_with fail
        refine (endOf_any lo hi _).mono ?_
        rintro e w2 ⟨rfl, hb2⟩
        go_wp2_with fail
        refine (isAhead_any k hi _).mono ?_
        rintro e w3 ⟨rfl, hb3⟩
        go_wp2
        go_ret
        exact ⟨by rw [HD.out]; rfl, below_new ((hb1.trans (hb2.mono hb1.size)).trans (hb3.mono (Nat.le_trans hb1.size hb2.size)))⟩
      · rw [h3] at HD
        go_wp2
        go_ret
        exact ⟨by rw [HD.out]; rfl, below_new hb1⟩
end Go.Proofs.Ytpeaajencheamaa
