/-
  Metas as plain data; MetaOk, l04Five and MetaBytes of the specification.
-/
import Derived.Test.YtpgogpphobafoaaSpecPut
import Derived.Test.YtpgogpphobafoaaFill
import Derived.Test.YtpgogpphobafoaaApG
namespace Go.Proofs.Ytpgogpphobafoaa
open Go.RowKit
def mtOk (g r : Int) : Bool := decide (1 ≤ g ∧ g ≤ 1099511627775) && (decide (r = 0) || decide (2 ≤ r ∧ r < 400))
def wts : List Int := [4294967296, 16777216, 65536, 256, 1]
def five (n : Int) : List Int := wts.map fun W => n / W % 256
def fiveT (n : Int) (j : Nat) : List Int := (wts.take j).map fun W => n / W % 256
def mtHead (g r : Int) : List Int := [77] ++ five g ++ [r / 256, r % 256]
def mtFull (g r : Int) : List Int := mtHead g r ++ List.replicate 499 0 ++ five g
def mtBytes (g r : Int) : Option (List Int) := if mtOk g r = true then some (mtFull g r) else none
theorem five_len (n : Int) : (five n).length = 5 := rfl
theorem mtFull_len (g r : Int) : (mtFull g r).length = 512 := by simp only [mtFull, mtHead, List.length_append, List.length_replicate, five_len, List.length_cons, List.length_nil]
theorem five_byte (n : Int) : ∀ z ∈ five n, 0 ≤ z ∧ z ≤ 255 := by
  intro z hz
  simp only [five, List.mem_map] at hz
  obtain ⟨W, _, rfl⟩ := hz
  omega
theorem fiveT_byte (n : Int) (j : Nat) : ∀ z ∈ fiveT n j, 0 ≤ z ∧ z ≤ 255 := by
  intro z hz
  simp only [fiveT, List.mem_map] at hz
  obtain ⟨W, _, rfl⟩ := hz
  omega
theorem mtHead_byte {g r : Int} (h0 : 0 ≤ r) (h1 : r < 400) : ∀ z ∈ mtHead g r, 0 ≤ z ∧ z ≤ 255 :=
  byte_append (byte_append (by intro z hz; simp at hz; omega) (five_byte g)) (by intro z hz; simp at hz; omega)
theorem mtFull_byte {g r : Int} (h0 : 0 ≤ r) (h1 : r < 400) : ∀ z ∈ mtFull g r, 0 ≤ z ∧ z ≤ 255 :=
  byte_append (byte_append (mtHead_byte h0 h1) (fun z hz => by have := List.eq_of_mem_replicate hz; omega)) (five_byte g)
def wAt (j : Nat) : Int := wts[j]?.getD 1
theorem wAt_rng {j : Nat} (h : j < 5) : 1 ≤ wAt j ∧ wAt j ≤ 4294967296 := by
  match j, h with
  | 0, _ => decide
  | 1, _ => decide
  | 2, _ => decide
  | 3, _ => decide
  | 4, _ => decide
theorem fiveT_succ (n : Int) {j : Nat} (h : j < 5) : fiveT n (j + 1) = fiveT n j ++ [n / wAt j % 256] := by
  match j, h with
  | 0, _ => rfl
  | 1, _ => rfl
  | 2, _ => rfl
  | 3, _ => rfl
  | 4, _ => rfl
theorem fiveT_five (n : Int) : fiveT n 5 = five n := rfl
theorem fiveT_len (n : Int) {j : Nat} (h : j ≤ 5) : (fiveT n j).length = j := by
  simp [fiveT, wts]; omega
theorem mtOk_facts {g r : Int} (h : mtOk g r = true) : 1 ≤ g ∧ g ≤ 1099511627775 ∧ 0 ≤ r ∧ r < 400 := by
  simp [mtOk] at h
  omega
set_option maxHeartbeats 4000000 in
theorem specMetaOk_any (g r : Int) (w : World) : Calls Try.prog 10 #[.agg #[.int .i64 g, .int .i64 r]] w fun e w' => e = .returned (.bool (mtOk g r)) ∧ Below w.heap.size w w' := by
  have HB := hid (below_new (o := .cells #[.int .i64 g, .int .i64 r] 35) (w := w) (Below.refl _ _))
  have HD : Hid (mtOk g r = (decide (1 ≤ g ∧ g ≤ 1099511627775) && (decide (r = 0) || decide (2 ≤ r ∧ r < 400)))) := rfl
  by_cases q1 : 1 ≤ g
  · by_cases q2 : g ≤ 1099511627775
    · have HN := hid (fun w => specNum_any g w true (by rw [decide_eq_true (by omega)]))
      rw [decide_eq_true (show 1 ≤ g ∧ g ≤ 1099511627775 from ⟨q1, q2⟩)] at HD
      by_cases q3 : r = 0
      · subst q3
        have HF : Hid (mtOk g 0 = true) := by show _ = true; rw [HD.out]; rfl
        go_enter Try.func10, Try.ntmps10
        go_wp2_with fail
        refine (HN.out _).mono ?_
        rintro e w1 ⟨rfl, rfl⟩
        go_wp2
        go_ret
        exact ⟨by rw [HF.out]; rfl, HB.out⟩
      · have q3' : (r == 0) = false := by simp [q3]
        by_cases q4 : 2 ≤ r
        · by_cases q5 : r < 400
          · have HF : Hid (mtOk g r = true) := by show _ = true; rw [HD.out, decide_eq_true (show 2 ≤ r ∧ r < 400 from ⟨q4, q5⟩)]; simp
            go_enter Try.func10, Try.ntmps10
            go_wp2_with fail
            refine (HN.out _).mono ?_
            rintro e w1 ⟨rfl, rfl⟩
            go_wp2
            go_ret
            exact ⟨by rw [HF.out]; rfl, HB.out⟩
          · have HF : Hid (mtOk g r = false) := by show _ = false; rw [HD.out, decide_eq_false q3, decide_eq_false (by omega)]; rfl
            have q5' : decide (r < 400) = false := decide_eq_false q5
            go_enter Try.func10, Try.ntmps10
            go_wp2_with fail
            refine (HN.out _).mono ?_
            rintro e w1 ⟨rfl, rfl⟩
            go_wp2
            go_ret
            exact ⟨by rw [HF.out]; rfl, HB.out⟩
        · have HF : Hid (mtOk g r = false) := by show _ = false; rw [HD.out, decide_eq_false q3, decide_eq_false (by omega)]; rfl
          go_enter Try.func10, Try.ntmps10
          go_wp2_with fail
          refine (HN.out _).mono ?_
          rintro e w1 ⟨rfl, rfl⟩
          go_wp2
          go_ret
          exact ⟨by rw [HF.out]; rfl, HB.out⟩
    · have HN := hid (fun w => specNum_any g w false (by rw [decide_eq_false (by omega)]))
      have HF : Hid (mtOk g r = false) := by show _ = false; rw [HD.out, decide_eq_false (by omega)]; rfl
      go_enter Try.func10, Try.ntmps10
      go_wp2_with fail
      refine (HN.out _).mono ?_
      rintro e w1 ⟨rfl, rfl⟩
      go_wp2
      go_ret
      exact ⟨by rw [HF.out]; rfl, HB.out⟩
  · have HF : Hid (mtOk g r = false) := by show _ = false; rw [HD.out, decide_eq_false (by omega)]; rfl
    go_enter Try.func10, Try.ntmps10
    go_wp2
    go_ret
    exact ⟨by rw [HF.out]; rfl, HB.out⟩
theorem infoU8' : (Try.prog.info? 5).map (fun i => (i.zero, i.size, i.bytes)) = some (some (.int .u8 0), 1, 1) := by kernel_rfl
theorem Ob.lower {w : World} {B B' : Nat} {v : Value} {zs : List Int} (h : Ob w B v zs) (hB : B' ≤ B) : Ob w B' v zs := by
  refine ⟨h.1, h.2.imp id ?_⟩
  rintro ⟨g, cap, cur, h1, h2, h3⟩
  exact ⟨g, cap, cur, h1, Nat.le_trans hB h2, h3⟩
theorem Ob.keep {w w' : World} {B : Nat} {v : Value} {zs : List Int} (h : Ob w B v zs) (hb : Below w.heap.size w w') : Ob w' B v zs := own_kept h (only_of_below hb (fun _ => False)) (fun _ _ h => h)
end Go.Proofs.Ytpgogpphobafoaa

