/-
  MetaOk, highFirst, fromHighFirst, MetaBytes and MetaRead of the program.
-/
import Derived.Test.YtgnjknbgahickabDoorMtR
import Derived.Test.YtgnjknbgahickabDoorDoor
namespace Go.Proofs.YtgnjknbgahickabDoor
open Go.RowKit
/-- The number without its k lowest bytes; its k lowest bytes, the highest first. -/
def shr8 (n : Int) : Nat → Int
  | 0 => n
  | k + 1 => shr8 n k / 256
def low8 (n : Int) : Nat → List Int
  | 0 => []
  | k + 1 => (shr8 n k % 256) :: low8 n k
theorem low8_len (n : Int) : ∀ k, (low8 n k).length = k
  | 0 => rfl
  | k + 1 => by rw [low8, List.length_cons, low8_len n k]
theorem low8_byte (n : Int) : ∀ k, ∀ z ∈ low8 n k, 0 ≤ z ∧ z ≤ 255
  | 0 => by intro z hz; cases hz
  | k + 1 => by
    intro z hz
    rw [low8] at hz
    rcases List.mem_cons.1 hz with rfl | h
    · omega
    · exact low8_byte n k z h
theorem low8_five (n : Int) : low8 n 5 = five n := by
  simp only [low8, shr8, five, wts, List.map_cons, List.map_nil]
  refine List.cons_eq_cons.2 ⟨by omega, List.cons_eq_cons.2 ⟨by omega, List.cons_eq_cons.2 ⟨by omega, List.cons_eq_cons.2 ⟨by omega, List.cons_eq_cons.2 ⟨by omega, rfl⟩⟩⟩⟩⟩
theorem low8_two {n : Int} (h0 : 0 ≤ n) (h1 : n < 65536) : low8 n 2 = [n / 256, n % 256] := by
  simp only [low8, shr8]
  refine List.cons_eq_cons.2 ⟨by omega, rfl⟩
theorem shr8_rng {n : Int} (h0 : 0 ≤ n) : ∀ k, 0 ≤ shr8 n k ∧ shr8 n k ≤ n
  | 0 => ⟨h0, Int.le_refl _⟩
  | k + 1 => by
    have := shr8_rng h0 k
    rw [shr8]
    omega
/-- The row that highFirst fills from behind, k of its bytes being there. -/
def lowP (n : Int) (s k : Nat) : List Int := List.replicate (s - k) 0 ++ low8 n k
theorem lowP_len (n : Int) {s k : Nat} (h : k ≤ s) : (lowP n s k).length = s := by
  rw [lowP, List.length_append, List.length_replicate, low8_len]
  omega
theorem lowP_set (n : Int) {s k : Nat} (h : k < s) : (byteVals (lowP n s k)).setIfInBounds (s - 1 - k) (.int .u8 (shr8 n k % 256)) = byteVals (lowP n s (k + 1)) := by
  obtain ⟨m, rfl⟩ : ∃ m, s = k + 1 + m := ⟨s - (k + 1), by omega⟩
  have e1 : k + 1 + m - k = m + 1 := by omega
  have e2 : k + 1 + m - (k + 1) = m := by omega
  have e3 : k + 1 + m - 1 - k = m := by omega
  rw [lowP, lowP, e1, e2, e3, byteVals, byteVals, List.setIfInBounds_toArray]
  congr 1
  rw [List.map_append, List.map_append, List.map_replicate, List.map_replicate, List.replicate_succ', List.append_assoc, List.set_append_right _ _ (by simp)]
  simp [low8]
theorem lowP_zero (n : Int) (s : Nat) : byteVals (lowP n s 0) = madeCells #[.int .u8 0] s := by
  apply Array.ext
  · simp [byteVals, lowP, low8, madeCells]
  · intro i h1 h2; simp [byteVals, lowP, low8, madeCells, Nat.mod_one]
theorem lowP_all (n : Int) (s : Nat) : lowP n s s = low8 n s := by simp [lowP]
theorem lowP_at (n : Int) {s k : Nat} (h : k ≤ s) {i : Nat} (hi : i < s) : ∃ z, (byteVals (lowP n s k))[i]? = some (.int .u8 z) := by
  have hl : i < (lowP n s k).length := by rw [lowP_len n h]; exact hi
  exact ⟨(lowP n s k)[i], by simp [byteVals, hl]⟩
/-- The number that bytes tell, the highest first. -/
def hiF (zs : List Int) : Int := zs.foldl (fun n z => n * 256 + z) 0
theorem hiF_take (zs : List Int) {k : Nat} (h : k < zs.length) : hiF (zs.take (k + 1)) = hiF (zs.take k) * 256 + zs[k]?.getD 0 := by
  rw [List.take_succ_eq_append_getElem h, hiF, List.foldl_append]
  simp [hiF, h]
theorem hiF_rng {zs : List Int} (hb : ∀ z ∈ zs, 0 ≤ z ∧ z ≤ 255) : ∀ k, k ≤ zs.length → 0 ≤ hiF (zs.take k) ∧ (k ≤ 5 → hiF (zs.take k) < 1099511627776) ∧ (k ≤ 4 → hiF (zs.take k) < 4294967296) ∧ (k ≤ 3 → hiF (zs.take k) < 16777216) ∧ (k ≤ 2 → hiF (zs.take k) < 65536) ∧ (k ≤ 1 → hiF (zs.take k) < 256) ∧ (k ≤ 0 → hiF (zs.take k) < 1)
  | 0, _ => by simp [hiF]
  | k + 1, h => by
    have h1 := hiF_rng hb k (by omega)
    have h2 := byte_at hb k
    rw [hiF_take zs (by omega)]
    omega
theorem rd_nilM (w : World) : Rd w none 0 0 [] := ⟨rfl, Nat.le_refl _, by omega, by omega, by simp, fun h => by omega⟩
theorem addSt_ok {most : Nat} {zs ys : List Int} (h : zs.length + ys.length ≤ most) : addSt most (some zs) ys = some (zs ++ ys) := if_pos h
theorem fillSt_ok {most : Nat} {zs : List Int} {k : Nat} (h : zs.length + k ≤ most) : fillSt most (some zs) ((zs.length + k : Nat) : Int) = some (zs ++ List.replicate k 0) := by
  show (if (zs.length : Int) ≤ ((zs.length + k : Nat) : Int) ∧ ((zs.length + k : Nat) : Int) ≤ most then _ else _) = _
  rw [if_pos (by omega)]
  congr 3
  omega
theorem Put.lift {w u w' : World} {r : Option (List Int)} {e : Ending} (hb : Below w.heap.size w u) (h : Put u r e w') : Put w r e w' := by
  refine ⟨btw hb h.1, h.2.imp id ?_⟩
  rintro ⟨v, zs, h1, h2, h3⟩
  exact ⟨v, zs, h1, h2, h3.lower hb.size⟩
theorem Rd.cut {w : World} {b off n c : Nat} {zs : List Int} (h : Rd w (some ⟨b, off, none⟩) n c zs) (lo m : Nat) (hm : lo + m ≤ n) : Rd w (some ⟨b, off + lo, none⟩) m (c - lo) ((zs.drop lo).take m) := by
  obtain ⟨h1, h2, h3, h4, h5, h6⟩ := h
  have e : ∀ i, i < m → ((zs.drop lo).take m)[i]?.getD 0 = zs[lo + i]?.getD 0 := by
    intro i hi
    rw [List.getElem?_take_of_lt hi, List.getElem?_drop]
  refine ⟨by simp; omega, by omega, by omega, by omega, fun i => ?_, fun hp => ?_⟩
  · by_cases hi : i < m
    · rw [e i hi]; exact h5 _
    · rw [List.getElem?_eq_none (by simp; omega)]; simp
  · obtain ⟨b', off', ha, hb, hc⟩ := h6 (by omega)
    cases ha
    refine ⟨b, off + lo, rfl, hb, fun i hi => ?_⟩
    rw [e i hi, Nat.add_assoc]
    exact hc (lo + i) (by omega)
theorem hiF_acc (zs : List Int) (h : zs.length = 512) : ∀ k, k ≤ 5 → hiF ((zs.drop 1).take k) = acc zs k
  | 0, _ => by simp [hiF, acc]
  | k + 1, hk => by
    rw [hiF_take _ (by simp; omega), hiF_acc zs h k (by omega), acc, List.getElem?_drop, Nat.add_comm 1 k]
    rfl
theorem hiF_root (zs : List Int) (h : zs.length = 512) : hiF ((zs.drop 6).take 2) = zAt zs 6 * 256 + zAt zs 7 := by
  rw [hiF_take _ (by simp; omega), hiF_take _ (by simp; omega), List.getElem?_drop, List.getElem?_drop]
  simp [hiF, zAt]
end Go.Proofs.YtgnjknbgahickabDoor

