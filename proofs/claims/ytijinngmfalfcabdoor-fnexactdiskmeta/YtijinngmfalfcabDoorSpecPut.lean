/-
  What the model's PutVar answers, for every slice of bytes and every number.
-/
import Derived.Test.YtijinngmfalfcabDoorApp
import Derived.Test.YtijinngmfalfcabDoorPlain
namespace Go.Proofs.YtijinngmfalfcabDoor
open Go.RowKit

set_option maxHeartbeats 400000 in
theorem specNum_any (n : Int) (w : World) (b : Bool) (hb : b = decide (0 ≤ n ∧ n ≤ 1099511627775)) :
    Calls Tryd.prog 89 #[.int .i64 n] w fun e w' => e = .returned (.bool b) ∧ w = w' := by
  have HB : Hid (b = decide (0 ≤ n ∧ n ≤ 1099511627775)) := hb
  clear hb
  by_cases h0 : 0 ≤ n
  · by_cases h1 : n ≤ 1099511627775
    · go_enter Tryd.func89, Tryd.ntmps89
      go_wp2
      go_ret
      exact ⟨by rw [HB.out]; simp [h0, h1], rfl⟩
    · go_enter Tryd.func89, Tryd.ntmps89
      go_wp2
      go_ret
      exact ⟨by rw [HB.out]; simp [h1], rfl⟩
  · go_enter Tryd.func89, Tryd.ntmps89
    go_wp2
    go_ret
    exact ⟨by rw [HB.out, decide_eq_false (by omega)]; rfl, rfl⟩

/-- What a put leaves: nil and false, or a row of the call's own and true. -/
def Put (w : World) (r : Option (List Int)) (e : Ending) (w' : World) : Prop :=
  Below w.heap.size w w' ∧ ((r = none ∧ e = .returned (.tuple #[.slice none 0 0, .bool false])) ∨ ∃ v zs, r = some zs ∧ e = .returned (.tuple #[v, .bool true]) ∧ Ob w' w.heap.size v zs)

set_option maxHeartbeats 800000 in
theorem specPutVar_any (a : Option Addr) (n c : Nat) (zs : List Int) (m : Int) (w : World) (h : Rd w a n c zs) (hlen : n ≤ 1099511627776) :
    Calls Tryd.prog 96 #[.slice a n c, .int .i64 m] w fun e w' => Put w (pv zs m) e w' := by
  have HN : Hid (n = zs.length) := h.1
  by_cases hok : 0 ≤ m ∧ m ≤ 1099511627775
  · obtain ⟨h0, h1⟩ := hok
    go_enter Tryd.func96, Tryd.ntmps96
    go_wp2_with (first
      | (go_at_call 89; refine (specNum_any m _ true (by simp [h0, h1])).mono ?_; rintro e w' ⟨rfl, rfl⟩)
      | (at_builtin; refine wpList_append_rd rfl _ _ rfl w.heap.size _ [] rfl (ob_new w w.heap.size (Nat.le_refl _)) a n c zs rfl ?src ?b ?base ?_))
    case src => exact h.kept ((Below.refl _ _).alloc (Nat.le_refl _) _)
    case b => rw [← HN.out]; simp; omega
    case base => simp
    intro v1 w1 hown1 hg1
    have hb1 : Below w.heap.size w w1 := Ob.below (ob_new w w.heap.size (Nat.le_refl _)) ((Below.refl _ _).alloc (Nat.le_refl _) _) (by simp) hg1
    have hown1' : Ob w1 w.heap.size v1 zs := by simpa using hown1
    clear hown1 hg1
    go_wp2
    go_loopw [6, 1] (fun v i wr => ∃ (f : Nat) (q : Int) (ds : List Int), i = .int .i64 q ∧ 0 ≤ q ∧ q ≤ 1099511627775 ∧ q < bnd f ∧ f ≤ 6 ∧ ds.length + f ≤ 6 ∧ ds ++ encF f q = enc m ∧ (∀ z ∈ ds, 0 ≤ z ∧ z ≤ 255) ∧ Ob wr w.heap.size v (zs ++ ds) ∧ Below w.heap.size w wr) (fun _ i _ => (intOf i).toNat)
    case atStart => exact ⟨6, m, [], rfl, h0, h1, by simp [bnd]; omega, by omega, by simp, rfl, by simp, by simpa using hown1', hb1⟩
    case round =>
      obtain ⟨f, q, ds, rfl, hq0, hq1, hqb, hf6, hdl, hds, hdb, hown, hbel⟩ := hrel
      have HD : Hid (ds ++ encF f q = enc m) := hds
      have HB : Hid (∀ z ∈ ds, 0 ≤ z ∧ z ≤ 255) := hdb
      have HQ : Hid (q < bnd f) := hqb
      have HO : Hid (Ob wr w.heap.size u6 (zs ++ ds)) := hown
      clear hds hdb hqb hown hb1 hown1'
      by_cases hge : 128 ≤ q
      · obtain ⟨f', hf'⟩ : ∃ f', f = f' + 1 := by
          cases f with
          | zero => have := HQ.out; simp [bnd] at this; omega
          | succ f => exact ⟨f, rfl⟩
        subst hf'
        have HD2 : Hid (ds ++ [128 + q % 128] ++ encF f' (q / 128) = enc m) := by
          show ds ++ [128 + q % 128] ++ encF f' (q / 128) = enc m
          rw [← HD.out, encF_big f' q hge]; simp
        have HQ2 : Hid (q / 128 < bnd f') := bnd_down f' q HQ.out
        go_wp2_with (at_builtin; refine wpList_append_rd rfl _ _ rfl w.heap.size _ (zs ++ ds) rfl (HO.out.alloc _) _ _ _ [128 + q % 128] rfl ?src ?b ?base ?_)
        case src => exact rd_one wr (128 + q % 128) (by omega) (by omega)
        case b => have := HN.out; simp; omega
        case base => have := hbel.size; simp; omega
        intro v2 w2 hown2 hg2
        have hb2 : Below w.heap.size w w2 := Ob.below (HO.out.alloc _) (hbel.alloc hbel.size _) (by have := hbel.size; simp; omega) hg2
        have HO2 : Hid (Ob w2 w.heap.size v2 (zs ++ (ds ++ [128 + q % 128]))) := hown2
        clear hown2 hg2
        go_wp2
        go_roundw
        case rel => exact ⟨f', q / 128, ds ++ [128 + q % 128], rfl, by omega, by omega, HQ2.out, by omega, by simp; omega, HD2.out, byte_append HB.out (by intro z hz; simp at hz; omega), HO2.out, hb2⟩
        case measure => simp [intOf]; omega
      · have HE : Hid (ds ++ [q] = enc m) := by
          show ds ++ [q] = enc m
          rw [← HD.out, encF_small f q (by omega)]
        go_wp2_with (at_builtin; refine wpList_append_rd rfl _ _ rfl w.heap.size _ (zs ++ ds) rfl (HO.out.alloc _) _ _ _ [q] rfl ?src ?b ?base ?_)
        case src => exact rd_one wr q (by omega) (by omega)
        case b => have := HN.out; simp; omega
        case base => have := hbel.size; simp; omega
        intro v2 w2 hown2 hg2
        have hb2 : Below w.heap.size w w2 := Ob.below (HO.out.alloc _) (hbel.alloc hbel.size _) (by have := hbel.size; simp; omega) hg2
        have hown3 : Ob w2 w.heap.size v2 (zs ++ enc m) := by
          rw [← HE.out]; exact hown2
        have HO2 : Hid (Ob w2 w.heap.size v2 (zs ++ enc m)) := hown3
        obtain ⟨a2, c2, hv2⟩ := hown3.shape
        have hl2 : (zs ++ enc m).length ≤ 1099511627783 := by
          have := (enc_len m).2
          have := HN.out
          simp; omega
        generalize hL : (zs ++ enc m).length = L at hv2 hl2
        have HL : Hid ((zs ++ enc m).length = L) := hL
        clear hown2 hg2 hown3 hL
        rw [hv2]
        by_cases hbig : 4096 < L
        · go_wp2
          go_ret2
          exact ⟨hb2, .inl ⟨pv_long _ _ (by rw [HL.out]; exact hbig), rfl⟩⟩
        · go_wp2
          go_ret2
          exact ⟨hb2, .inr ⟨_, _, pv_ok _ _ h0 h1 (by rw [HL.out]; omega), rfl, by rw [← hv2]; exact HO2.out⟩⟩
  · have HB : Hid (pv zs m = none) := pv_bad zs m (by omega)
    go_enter Tryd.func96, Tryd.ntmps96
    go_wp2_with (go_at_call 89; refine (specNum_any m _ false (by rw [decide_eq_false hok])).mono ?_; rintro e w' ⟨rfl, rfl⟩)
    go_ret2
    exact ⟨Below.refl _ _, .inl ⟨HB.out, rfl⟩⟩
end Go.Proofs.YtijinngmfalfcabDoor

