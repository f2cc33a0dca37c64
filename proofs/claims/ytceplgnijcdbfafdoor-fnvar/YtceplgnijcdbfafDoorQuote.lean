/-
  What both Quotes answer, for every string.
-/
import Derived.Test.YtceplgnijcdbfafDoorImplPut
import Derived.Test.YtceplgnijcdbfafDoorZeros
import Derived.Test.YtceplgnijcdbfafDoorStr
import Derived.Deep.RegionWith
namespace Go.Proofs.YtceplgnijcdbfafDoor
open Go.RowKit

def isPl (z : Int) : Bool := decide (33 ≤ z) && decide (z ≤ 126) && !(z == 34) && !(z == 37)
def hexD (d : Int) : Int := if d < 10 then 48 + d else 55 + d
/-- The quoted form of a byte. -/
def qb (z : Int) : List Int := if isPl z then [z] else [37, hexD (z / 16), hexD (z % 16)]
def qs (zs : List Int) : List Int := zs.flatMap qb
def qt (s : ByteArray) : ByteArray := if s.size ≤ 4096 then strOf (34 :: qs (bytesOf s) ++ [34]) else ByteArray.empty

theorem isPl_iff (z : Int) : isPl z = true ↔ 33 ≤ z ∧ z ≤ 126 ∧ z ≠ 34 ∧ z ≠ 37 := by
  simp [isPl, and_assoc]
theorem hexD_byte (d : Int) (h0 : 0 ≤ d) (h1 : d ≤ 15) : 0 ≤ hexD d ∧ hexD d ≤ 255 := by unfold hexD; split <;> omega
theorem qb_len (z : Int) : (qb z).length ≤ 3 := by unfold qb; split <;> simp
theorem qb_byte (z : Int) (h0 : 0 ≤ z) (h1 : z ≤ 255) : ∀ x ∈ qb z, 0 ≤ x ∧ x ≤ 255 := by
  intro x hx
  unfold qb at hx
  split at hx
  · simp at hx; omega
  · simp at hx
    have a := hexD_byte (z / 16) (by omega) (by omega)
    have b := hexD_byte (z % 16) (by omega) (by omega)
    rcases hx with e | e | e <;> omega
theorem qs_len (zs : List Int) : (qs zs).length ≤ 3 * zs.length := by
  induction zs with
  | nil => simp [qs]
  | cons z zs ih =>
    have := qb_len z
    simp only [qs, List.flatMap_cons, List.length_append, List.length_cons] at ih ⊢
    omega
theorem qs_byte (zs : List Int) (h : ∀ z ∈ zs, 0 ≤ z ∧ z ≤ 255) : ∀ x ∈ qs zs, 0 ≤ x ∧ x ≤ 255 := by
  intro x hx
  obtain ⟨z, hz, hx⟩ := List.mem_flatMap.1 hx
  exact qb_byte z (h z hz).1 (h z hz).2 x hx
theorem bytes_take (s : ByteArray) (k : Nat) (h : k < s.size) : (bytesOf s).take (k + 1) = (bytesOf s).take k ++ [(s[k].toNat : Int)] := by
  have h' : k < (bytesOf s).length := by rw [bytesOf_len]; exact h
  rw [List.take_succ_eq_append_getElem h']
  congr 2
  simp [bytesOf]
  rfl
theorem qs_take (s : ByteArray) (k : Nat) (h : k < s.size) : qs ((bytesOf s).take (k + 1)) = qs ((bytesOf s).take k) ++ qb (s[k].toNat : Int) := by
  rw [bytes_take s k h]
  simp [qs]

theorem ow_one (w : World) (B : Nat) (z : Int) (hB : B ≤ w.heap.size) : Ow (w.alloc (.cells #[.int .u8 z] 5)) B (.slice (some ⟨w.heap.size, 0, none⟩) 1 1) [z] :=
  ⟨rfl, .inr ⟨w.heap.size, 1, _, rfl, hB, heap_alloc_new w _, Nat.le_refl _, by decide, rfl, rfl⟩⟩
theorem rd_three (w : World) (x y z : Int) (hx : 0 ≤ x ∧ x ≤ 255) (hy : 0 ≤ y ∧ y ≤ 255) (hz : 0 ≤ z ∧ z ≤ 255) : Rd (w.alloc (.cells #[.int .u8 x, .int .u8 y, .int .u8 z] 5)) (some ⟨w.heap.size, 0, none⟩) 3 3 [x, y, z] := by
  refine ⟨rfl, Nat.le_refl _, by omega, by omega, fun i => ?_, fun _ => ⟨w.heap.size, 0, rfl, by simp, fun i hi => ?_⟩⟩
  · match i with
    | 0 => exact hx
    | 1 => exact hy
    | 2 => exact hz
    | n + 3 => simp
  · rw [World.cell?_alloc_at (hn := rfl)]
    match i, hi with
    | 0, _ => rfl
    | 1, _ => rfl
    | 2, _ => rfl

set_option maxHeartbeats 400000 in
theorem digit_any (d : Int) (w : World) (h0 : 0 ≤ d) (h1 : d ≤ 15) :
    Calls Tryd.prog 28 #[.int .i64 d] w fun e w' => e = .returned (.int .u8 (hexD d)) ∧ w = w' := by
  by_cases h : d < 10
  · have HH : Hid (hexD d = 48 + d) := by show hexD d = 48 + d; unfold hexD; exact if_pos h
    go_enter Tryd.func28, Tryd.ntmps28
    go_wp2
    go_ret
    exact ⟨by rw [HH.out]; rfl, rfl⟩
  · have HH : Hid (hexD d = 65 + d - 10) := by show hexD d = 65 + d - 10; unfold hexD; rw [if_neg h]; omega
    go_enter Tryd.func28, Tryd.ntmps28
    go_wp2
    go_ret
    exact ⟨by rw [HH.out]; rfl, rfl⟩

set_option maxHeartbeats 400000 in
theorem isPlain_any (z : Int) (w : World) : Calls Tryd.prog 32 #[.int .u8 z] w fun e w' => e = .returned (.bool (isPl z)) ∧ w = w' := by
  by_cases h0 : 33 ≤ z
  · by_cases h1 : z ≤ 126
    · by_cases h2 : z = 34
      · subst h2
        go_enter Tryd.func32, Tryd.ntmps32
        go_wp2
        go_ret
        exact ⟨rfl, rfl⟩
      · by_cases h3 : z = 37
        · subst h3
          go_enter Tryd.func32, Tryd.ntmps32
          go_wp2
          go_ret
          exact ⟨rfl, rfl⟩
        · have HP : Hid (isPl z = true) := (isPl_iff z).2 ⟨h0, h1, h2, h3⟩
          have g2 : (z != 34) = true := by simp [h2]
          have g3 : (z != 37) = true := by simp [h3]
          clear h2 h3
          go_enter Tryd.func32, Tryd.ntmps32
          go_wp2
          go_ret
          exact ⟨by rw [HP.out]; rfl, rfl⟩
    · have HP : Hid (isPl z = false) := by
        show isPl z = false
        rw [← Bool.not_eq_true, isPl_iff]; omega
      go_enter Tryd.func32, Tryd.ntmps32
      go_wp2
      go_ret
      exact ⟨by rw [HP.out]; rfl, rfl⟩
  · have HP : Hid (isPl z = false) := by
      show isPl z = false
      rw [← Bool.not_eq_true, isPl_iff]; omega
    go_enter Tryd.func32, Tryd.ntmps32
    go_wp2
    go_ret
    exact ⟨by rw [HP.out]; rfl, rfl⟩

set_option maxHeartbeats 1000000 in
theorem specQuote_any (s : ByteArray) (w : World) (hs : s.size ≤ 1048576) :
    Calls Tryd.prog 14 #[.string s] w fun e w' => e = .returned (.string (qt s)) ∧ Below w.heap.size w w' := by
  by_cases hbig : 4096 < s.size
  · have HQ : Hid (qt s = ByteArray.empty) := by show qt s = ByteArray.empty; unfold qt; exact if_neg (by omega)
    have hb' : (4096 : Int) < (s.size : Int) := by omega
    go_enter Tryd.func14, Tryd.ntmps14
    go_wp2
    go_ret
    exact ⟨by rw [HQ.out]; rfl, Below.refl _ _⟩
  · have HQ : Hid (qt s = strOf (34 :: qs (bytesOf s) ++ [34])) := by show qt s = strOf (34 :: qs (bytesOf s) ++ [34]); unfold qt; exact if_pos (by omega)
    have hb' : ¬ (4096 : Int) < (s.size : Int) := by omega
    have HO0 := hid (ow_one w w.heap.size 34 (Nat.le_refl _))
    go_enter Tryd.func14, Tryd.ntmps14
    go_wp2
    go_loopw [3, 4] (fun v i wr => ∃ k : Nat, k ≤ s.size ∧ i = .int .i64 k ∧ Ow wr w.heap.size v (34 :: qs ((bytesOf s).take k)) ∧ Below w.heap.size w wr) (fun _ i _ => s.size - (intOf i).toNat)
    case atStart => exact ⟨0, Nat.zero_le _, rfl, HO0.out, (Below.refl _ _).alloc (Nat.le_refl _) _⟩
    case round =>
      obtain ⟨k, hk, rfl, hown, hbel⟩ := hrel
      have HO := hid hown
      have HB := hid hbel
      have hsz := hbel.size
      have HL : Hid ((34 :: qs ((bytesOf s).take k)).length ≤ 12290) := by
        have := qs_len ((bytesOf s).take k)
        have := List.length_take_le k (bytesOf s)
        show (34 :: qs ((bytesOf s).take k)).length ≤ 12290
        simp only [List.length_cons]; omega
      clear hown hbel
      by_cases hlt : k < s.size
      · have HT := hid (qs_take s k hlt)
        have hlt' : (k : Int) < (s.size : Int) := by omega
        have hz0 : (0 : Int) ≤ (s[k].toNat : Int) := by omega
        have hz1 : (s[k].toNat : Int) ≤ 255 := by have := s[k].toNat_lt; omega
        cases hpl : isPl (s[k].toNat : Int) with
        | true =>
          have HT2 : Hid (qs ((bytesOf s).take (k + 1)) = qs ((bytesOf s).take k) ++ [(s[k].toNat : Int)]) := by
            have := HT.out
            rw [this]; unfold qb; rw [if_pos hpl]; rfl
          obtain ⟨p0, p1, p2, p3⟩ := (isPl_iff _).1 hpl
          have g2 : ((s[k].toNat : Int) != 34) = true := by simp only [bne_iff_ne]; exact p2
          have g3 : ((s[k].toNat : Int) != 37) = true := by simp only [bne_iff_ne]; exact p3
          clear p2 p3 hpl
          go_wp2_with (at_builtin; refine wpList_append_rd rfl _ _ rfl w.heap.size _ (34 :: qs ((bytesOf s).take k)) rfl (HO.out.alloc _) _ _ _ [(s[k].toNat : Int)] rfl ?src ?b ?base ?_)
          case src => exact rd_one wr _ hz0 hz1
          case b => have := HL.out; simp only [List.length_cons, List.length_nil] at this ⊢; omega
          case base => simp; omega
          intro v2 w2 hown2 hg2
          have hb2 : Below w.heap.size w w2 := Ow.below (HO.out.alloc _) (HB.out.alloc hsz _) (by simp; omega) hg2
          have HO2 : Hid (Ow w2 w.heap.size v2 (34 :: qs ((bytesOf s).take (k + 1)))) := by
            show Ow w2 w.heap.size v2 (34 :: qs ((bytesOf s).take (k + 1)))
            rw [HT2.out]; exact hown2
          clear hown2 hg2
          go_wp2
          go_roundw
          case rel => exact ⟨k + 1, by omega, by go_num, HO2.out, hb2⟩
          case measure => simp [intOf]; omega
        | false =>
          have HT2 : Hid (qs ((bytesOf s).take (k + 1)) = qs ((bytesOf s).take k) ++ [37, hexD ((s[k].toNat : Int) / 16), hexD ((s[k].toNat : Int) % 16)]) := by
            have := HT.out
            rw [this]; unfold qb; rw [hpl]; rfl
          have hnp : ¬ (33 ≤ (s[k].toNat : Int) ∧ (s[k].toNat : Int) ≤ 126 ∧ (s[k].toNat : Int) ≠ 34 ∧ (s[k].toNat : Int) ≠ 37) := by
            intro h; rw [(isPl_iff _).2 h] at hpl; cases hpl
          have hcase : (s[k].toNat : Int) < 33 ∨ (33 ≤ (s[k].toNat : Int) ∧ 126 < (s[k].toNat : Int)) ∨ ((33 ≤ (s[k].toNat : Int) ∧ (s[k].toNat : Int) ≤ 126) ∧ ((s[k].toNat : Int) != 34) = false) ∨
              ((33 ≤ (s[k].toNat : Int) ∧ (s[k].toNat : Int) ≤ 126) ∧ ((s[k].toNat : Int) != 34) = true ∧ ((s[k].toNat : Int) != 37) = false) := by
            simp only [bne_iff_ne, bne_eq_false_iff_eq]
            omega
          clear hnp hpl
          rcases hcase with h1 | ⟨h1, h2⟩ | ⟨⟨h1, h2⟩, h3⟩ | ⟨⟨h1, h2⟩, h3, h4⟩
          all_goals
            go_wp2_with fail
            refine (digit_any ((s[k].toNat : Int) / 16) _ (by omega) (by omega)).mono ?_
            rintro e w' ⟨rfl, rfl⟩
            go_wp2_with fail
            refine (digit_any ((s[k].toNat : Int) % 16) _ (by omega) (by omega)).mono ?_
            rintro e w' ⟨rfl, rfl⟩
            go_wp2_with (at_builtin; refine wpList_append_rd rfl _ _ rfl w.heap.size _ (34 :: qs ((bytesOf s).take k)) rfl (HO.out.alloc _) _ _ _ [37, hexD ((s[k].toNat : Int) / 16), hexD ((s[k].toNat : Int) % 16)] rfl ?src ?b ?base ?_)
            case src => exact rd_three wr _ _ _ (by omega) (hexD_byte _ (by omega) (by omega)) (hexD_byte _ (by omega) (by omega))
            case b => have := HL.out; simp only [List.length_cons, List.length_nil] at this ⊢; omega
            case base => simp; omega
            intro v2 w2 hown2 hg2
            have hb2 : Below w.heap.size w w2 := Ow.below (HO.out.alloc _) (HB.out.alloc hsz _) (by simp; omega) hg2
            have HO2 : Hid (Ow w2 w.heap.size v2 (34 :: qs ((bytesOf s).take (k + 1)))) := by
              show Ow w2 w.heap.size v2 (34 :: qs ((bytesOf s).take (k + 1)))
              rw [HT2.out]; exact hown2
            clear hown2 hg2
            go_wp2
            go_roundw
            case rel => exact ⟨k + 1, by omega, by go_num, HO2.out, hb2⟩
            case measure => simp [intOf]; omega
      · have hlt' : ¬ (k : Int) < (s.size : Int) := by omega
        have HT : Hid ((bytesOf s).take k = bytesOf s) := List.take_of_length_le (by rw [bytesOf_len]; omega)
        go_wp2_with (at_builtin; refine wpList_append_rd rfl _ _ rfl w.heap.size _ (34 :: qs ((bytesOf s).take k)) rfl (HO.out.alloc _) _ _ _ [34] rfl ?src ?b ?base ?_)
        case src => exact rd_one wr _ (by omega) (by omega)
        case b => have := HL.out; simp only [List.length_cons] at this ⊢; omega
        case base => omega
        intro v2 w2 hown2 hg2
        have hb2 : Below w.heap.size w w2 := Ow.below (HO.out.alloc _) (HB.out.alloc hsz _) (by simp; omega) hg2
        have hown3 : Ow w2 w.heap.size v2 (34 :: qs (bytesOf s) ++ [34]) := by
          have := hown2; rw [HT.out] at this; exact this
        have hbyte : ∀ z ∈ (34 :: qs (bytesOf s) ++ [34] : List Int), 0 ≤ z ∧ z ≤ 255 := by
          intro z hz
          simp only [List.cons_append, List.mem_cons, List.mem_append] at hz
          rcases hz with e | e | e
          · omega
          · exact qs_byte _ (bytesOf_byte s) z e
          · simp at e; omega
        obtain ⟨a3, c3, hv3, hrd3, _⟩ := hown3.rd (byte_at hbyte) (by have := qs_len (bytesOf s); have := bytesOf_len s; simp; omega)
        have hst := run_str hrd3
        generalize hL3 : (34 :: qs (bytesOf s) ++ [34]).length = L3 at hv3 hst
        clear hown2 hg2 hown3 hbyte hrd3 hL3
        rw [hv3]
        clear hv3
        go_wp2
        go_ret
        exact ⟨by rw [HQ.out]; rfl, hb2⟩
end Go.Proofs.YtceplgnijcdbfafDoor
