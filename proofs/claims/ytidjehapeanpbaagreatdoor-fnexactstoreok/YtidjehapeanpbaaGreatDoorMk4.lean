/-
  Disks in the law's helpers: sizes summed, held against each other.
-/
import Derived.Test.YtidjehapeanpbaaGreatDoorMk3
import Derived.Test.YtidjehapeanpbaaGreatDoorMk1
import Derived.Test.YtidjehapeanpbaaGreatDoorMk2
import Derived.Deep.RegionLaw
import Derived.Deep.DeepCutAuto
import Derived.LaidLaws
import Derived.Stop.LaidErr
import Derived.WalkLawsBesides
import Derived.Defers
import Derived.Recover
import Derived.Deep.RegionWith
import Derived.RegionDies
namespace Go.Proofs.YtidjehapeanpbaaGreatDoor
open Go.RowKit
set_option linter.unusedVariables false
def offS (ss : List (List Int)) : Nat → Nat
 | 0 => 0
 | k + 1 => offS ss k + (shAt ss k).length
theorem offS_mono (ss : List (List Int)) {i n : Nat} (h : i ≤ n) : offS ss i ≤ offS ss n := by
 induction n with
 | zero => obtain rfl : i = 0 := by omega
           exact Nat.le_refl _
 | succ n ih =>
  by_cases e : i = n + 1
  ·subst e; exact Nat.le_refl _
  ·exact Nat.le_trans (ih (by omega)) (Nat.le_add_right _ _)
theorem offS_at (ss : List (List Int)) {i n : Nat} (h : i < n) : (shAt ss i).length ≤ offS ss n := by
 have := offS_mono ss (show i + 1 ≤ n by omega)
 simp only [offS] at this
 omega
def dkSum (d : DK) : Nat := d.sh.length + offS d.sh d.sh.length + d.dw.length + offS (d.dw.map Prod.snd) d.dw.length
theorem small_of_sum {d : DK} (h : dkSum d ≤ 1048576) : smallD d ∧ d.sh.length ≤ 1048576 ∧ d.dw.length ≤ 1048576 := by
 unfold dkSum at h
 refine ⟨⟨fun i hi => ?_, fun i hi => ?_⟩, by omega, by omega⟩
 ·have := offS_at d.sh hi; omega
 ·have := offS_at (d.dw.map Prod.snd) hi; rw [shAt_map] at this; omega
theorem szByteS_at (a : Option Addr) (n c : Nat) (left : Int) (w : World) (hc : n ≤ 9223372036854775807) (h0 : 0 ≤ left) (h1 : left ≤ 1048576) :
  Calls Tryz.prog 101 #[.slice a n c, .int .i64 left] w fun e w' => (∃ y : Int, e = .returned (.int .i64 y) ∧ y ≤ left ∧ -1 ≤ y ∧ (0 ≤ y → y + (n : Int) = left)) ∧ w' = w := by
 by_cases hneg : left - (n : Int) < 0
 ·go_enter Tryz.func101, Tryz.ntmps101
  go_wp2
  go_ret
  exact ⟨⟨_, rfl, by omega, by omega, fun h => by omega⟩, rfl⟩
 ·go_enter Tryz.func101, Tryz.ntmps101
  go_wp2
  go_ret
  exact ⟨⟨_, rfl, by omega, by omega, fun h => by omega⟩, rfl⟩
set_option maxHeartbeats 2000000 in
theorem szSheet_any (a : Option Addr) (n c : Nat) (left : Int) (w : World) (hc : n ≤ 9223372036854775807) (h0 : 0 ≤ left) (h1 : left ≤ 1048576) :
  Calls Tryz.prog 59 #[.agg #[.slice a n c], .int .i64 left] w fun e w' => (∃ y : Int, e = .returned (.int .i64 y) ∧ y ≤ left ∧ -1 ≤ y ∧ (0 ≤ y → y + (n : Int) = left)) ∧ Below w.heap.size w w' := by
 have HB0 : Hid (Below w.heap.size w (w.alloc (.cells #[.slice a n c] 98))) := below_new (Below.refl _ _)
 go_enter Tryz.func59, Tryz.ntmps59
 go_wp2_with fail
 refine (szByteS_at a n c left _ hc h0 h1).mono ?_
 rintro e w1 ⟨⟨y, rfl, hy1, hy2, hy3⟩, rfl⟩
 have HY := hid hy3
 clear hy3
 by_cases hneg : y < 0
 ·go_wp2
  go_ret
  exact ⟨⟨_, rfl, by omega, by omega, fun h => by omega⟩, HB0.out⟩
 ·go_wp2
  go_ret
  exact ⟨⟨_, rfl, by omega, by omega, HY.out⟩, HB0.out⟩
set_option maxHeartbeats 2000000 in
theorem szWrite_any (t : Int) (a : Option Addr) (n c : Nat) (left : Int) (w : World) (hc : n ≤ 9223372036854775807) (h0 : 0 ≤ left) (h1 : left ≤ 1048576) :
  Calls Tryz.prog 60 #[.agg #[.int .i64 t, .slice a n c], .int .i64 left] w fun e w' => (∃ y : Int, e = .returned (.int .i64 y) ∧ y ≤ left ∧ -1 ≤ y ∧ (0 ≤ y → y + (n : Int) = left)) ∧ Below w.heap.size w w' := by
 have HB0 : Hid (Below w.heap.size w (w.alloc (.cells #[.int .i64 t, .slice a n c] 101))) := below_new (Below.refl _ _)
 go_enter Tryz.func60, Tryz.ntmps60
 go_wp2_with fail
 refine (szByteS_at a n c left _ hc h0 h1).mono ?_
 rintro e w1 ⟨⟨y, rfl, hy1, hy2, hy3⟩, rfl⟩
 have HY := hid hy3
 clear hy3
 by_cases hneg : y < 0
 ·go_wp2
  go_ret
  exact ⟨⟨_, rfl, by omega, by omega, fun h => by omega⟩, HB0.out⟩
 ·go_wp2
  go_ret
  exact ⟨⟨_, rfl, by omega, by omega, HY.out⟩, HB0.out⟩
set_option maxHeartbeats 2000000 in
theorem szSheetS_at (S : Nat → Prop) (a : Option Addr) (n c : Nat) (ss : List (List Int)) (left : Int) (w : World) (h : Shr w S (.slice a n c) ss) (h0 : 0 ≤ left) (h1 : left ≤ 1048576) :
  Calls Tryz.prog 21 #[.slice a n c, .int .i64 left] w fun e w' => (∃ x : Int, e = .returned (.int .i64 x) ∧ x ≤ left ∧ -1 ≤ x ∧ (0 ≤ x → x + ((n + offS ss n : Nat) : Int) = left)) ∧ Below w.heap.size w w' := by
 obtain ⟨hn, hnc, hcc⟩ := h.len
 have HN := hid hn
 have H0 := hid h
 clear h hn
 by_cases hbig : left - (n : Int) < 0
 ·go_enter Tryz.func21, Tryz.ntmps21
  go_wp2
  go_ret
  exact ⟨⟨_, rfl, by omega, by omega, fun h => by omega⟩, Below.refl _ _⟩
 ·have hn2 : n ≤ 1048576 := by omega
  go_enter Tryz.func21, Tryz.ntmps21
  go_wp2
  go_loopw [1, 5] (fun x i wr => ∃ (k : Nat) (y : Int), k ≤ n ∧ i = .int .i64 k ∧ x = .int .i64 y ∧ 0 ≤ y ∧ y ≤ left ∧ Hid (y + ((n + offS ss k : Nat) : Int) = left) ∧ Hid (Below w.heap.size w wr)) (fun _ i _ => n - (intOf i).toNat)
  case atStart => exact ⟨0, _, Nat.zero_le _, rfl, rfl, by omega, by omega, (by show _ = _; simp [offS]), Below.refl _ _⟩
  case round =>
   obtain ⟨k, y, hk, rfl, rfl, hy0, hy1, HS, HB⟩ := hrel
   by_cases hlt : k < n
   ·have hlt' : (k : Int) < (n : Int) := by omega
    have HP := hid (H0.out.below HB.out)
    obtain ⟨b, off, rfl, _, hbw, hcell⟩ := HP.out.at (by omega)
    obtain ⟨ap, np, cp, c0, hp⟩ := hcell k hlt
    have l0 := hid hp.len.1
    have lc : np ≤ 9223372036854775807 := by have := hp.len.2; omega
    have HOF : Hid (offS ss (k + 1) = offS ss k + np) := by show _ = _; rw [offS, l0.out]
    clear hcell hbw HP hp
    go_wp2_with fail
    refine (szSheet_any ap np cp y wr lc hy0 (by omega)).mono ?_
    rintro e w1 ⟨⟨z, rfl, hz1, hz2, hz3⟩, hb1⟩
    have HB1 := hid (HB.out.trans (hb1.mono HB.out.size))
    have HZ3 := hid hz3
    clear hb1 hz3
    by_cases hneg : z < 0
    ·go_wp2
     go_ret
     exact ⟨⟨_, rfl, by omega, by omega, fun h => by omega⟩, HB1.out⟩
    ·have HS1 : Hid (z + ((n + offS ss (k + 1) : Nat) : Int) = left) := by
      have h2 := HZ3.out (by omega)
      have h3 := HS.out
      show _ = _
      rw [HOF.out]
      omega
     clear HOF HS HZ3
     go_wp2
     go_roundw
     case rel => exact ⟨k + 1, z, by omega, by go_num, rfl, by omega, by omega, HS1.out, HB1.out⟩
     case measure => simp [intOf]; omega
   ·have hk' : k = n := by omega
    have HS1 : Hid (y + ((n + offS ss n : Nat) : Int) = left) := by rw [hk'] at HS; exact HS.out
    clear hk' HS
    go_wp2
    go_ret
    exact ⟨⟨_, rfl, by omega, by omega, fun _ => HS1.out⟩, HB.out⟩
set_option maxHeartbeats 2000000 in
theorem szWriteS_at (S : Nat → Prop) (a : Option Addr) (n c : Nat) (ss : List DW) (left : Int) (w : World) (h : Wrr w S (.slice a n c) ss) (h0 : 0 ≤ left) (h1 : left ≤ 1048576) :
  Calls Tryz.prog 22 #[.slice a n c, .int .i64 left] w fun e w' => (∃ x : Int, e = .returned (.int .i64 x) ∧ x ≤ left ∧ -1 ≤ x ∧ (0 ≤ x → x + ((n + offS (ss.map Prod.snd) n : Nat) : Int) = left)) ∧ Below w.heap.size w w' := by
 obtain ⟨hn, hnc, hcc⟩ := h.len
 have HN := hid hn
 have H0 := hid h
 clear h hn
 by_cases hbig : left - (n : Int) < 0
 ·go_enter Tryz.func22, Tryz.ntmps22
  go_wp2
  go_ret
  exact ⟨⟨_, rfl, by omega, by omega, fun h => by omega⟩, Below.refl _ _⟩
 ·have hn2 : n ≤ 1048576 := by omega
  go_enter Tryz.func22, Tryz.ntmps22
  go_wp2
  go_loopw [1, 5] (fun x i wr => ∃ (k : Nat) (y : Int), k ≤ n ∧ i = .int .i64 k ∧ x = .int .i64 y ∧ 0 ≤ y ∧ y ≤ left ∧ Hid (y + ((n + offS (ss.map Prod.snd) k : Nat) : Int) = left) ∧ Hid (Below w.heap.size w wr)) (fun _ i _ => n - (intOf i).toNat)
  case atStart => exact ⟨0, _, Nat.zero_le _, rfl, rfl, by omega, by omega, (by show _ = _; simp [offS]), Below.refl _ _⟩
  case round =>
   obtain ⟨k, y, hk, rfl, rfl, hy0, hy1, HS, HB⟩ := hrel
   by_cases hlt : k < n
   ·have hlt' : (k : Int) < (n : Int) := by omega
    have HP := hid (H0.out.below HB.out)
    obtain ⟨b, off, rfl, _, hbw, hcell⟩ := HP.out.at (by omega)
    obtain ⟨ap, np, cp, ct, c0, hp⟩ := hcell k hlt
    have l0 := hid hp.len.1
    have lc : np ≤ 9223372036854775807 := by have := hp.len.2; omega
    have HOF : Hid (offS (ss.map Prod.snd) (k + 1) = offS (ss.map Prod.snd) k + np) := by show _ = _; rw [offS, l0.out, shAt_map]
    clear hcell hbw HP hp
    generalize (dwAt ss k).1 = tt at ct
    go_wp2_with fail
    refine (szWrite_any tt ap np cp y wr lc hy0 (by omega)).mono ?_
    rintro e w1 ⟨⟨z, rfl, hz1, hz2, hz3⟩, hb1⟩
    have HB1 := hid (HB.out.trans (hb1.mono HB.out.size))
    have HZ3 := hid hz3
    clear hb1 hz3
    by_cases hneg : z < 0
    ·go_wp2
     go_ret
     exact ⟨⟨_, rfl, by omega, by omega, fun h => by omega⟩, HB1.out⟩
    ·have HS1 : Hid (z + ((n + offS (ss.map Prod.snd) (k + 1) : Nat) : Int) = left) := by
      have h2 := HZ3.out (by omega)
      have h3 := HS.out
      show _ = _
      rw [HOF.out]
      omega
     clear HOF HS HZ3
     go_wp2
     go_roundw
     case rel => exact ⟨k + 1, z, by omega, by go_num, rfl, by omega, by omega, HS1.out, HB1.out⟩
     case measure => simp [intOf]; omega
   ·have hk' : k = n := by omega
    have HS1 : Hid (y + ((n + offS (ss.map Prod.snd) n : Nat) : Int) = left) := by rw [hk'] at HS; exact HS.out
    clear hk' HS
    go_wp2
    go_ret
    exact ⟨⟨_, rfl, by omega, by omega, fun _ => HS1.out⟩, HB.out⟩
set_option maxHeartbeats 2000000 in
theorem szDisk_any (S : Nat → Prop) (sa : Option Addr) (sn sc : Nat) (da : Option Addr) (dn dc : Nat) (d : DK) (w : World) (h : Dk w S sa sn sc da dn dc d) :
  Calls Tryz.prog 6 #[.agg #[.slice sa sn sc, .slice da dn dc], .int .i64 1048576] w fun e w' => (∃ y : Int, e = .returned (.int .i64 y) ∧ y ≤ 1048576 ∧ -1 ≤ y ∧ (0 ≤ y → dkSum d ≤ 1048576)) ∧ Below w.heap.size w w' := by
 have HS := hid h.hs
 have HD := hid h.hd
 have HNS := hid h.hs.len.1
 have HND := hid h.hd.len.1
 clear h
 have HB0 : Hid (Below w.heap.size w (w.alloc (.cells #[.slice sa sn sc, .slice da dn dc] 25))) := below_new (Below.refl _ _)
 have KP : Hid (Bk (w.alloc (.cells #[.slice sa sn sc, .slice da dn dc] 25)) w.heap.size 25 [.slice sa sn sc, .slice da dn dc]) := Bk.new w 25 [.slice sa sn sc, .slice da dn dc]
 go_enter Tryz.func6, Tryz.ntmps6
 go_wp2_with fail
 refine (szSheetS_at S sa sn sc d.sh _ _ (HS.out.below HB0.out) (by omega) (by omega)).mono ?_
 generalize w.alloc (.cells #[.slice sa sn sc, .slice da dn dc] 25) = W at *
 rintro e w1 ⟨⟨y, rfl, hy1, hy2, hy3⟩, hb1⟩
 have HB1 := hid (HB0.out.trans (hb1.mono HB0.out.size))
 have KP1 := hid (KP.out.below hb1)
 have HY := hid hy3
 clear hb1 KP HB0 hy3
 by_cases hneg : y < 0
 ·go_wp2
  go_ret
  exact ⟨⟨_, rfl, by omega, by omega, fun h => by omega⟩, HB1.out⟩
 ·have c1 := KP1.out.cell (j := 1) rfl
  go_wp2_with fail
  refine (szWriteS_at S da dn dc d.dw y _ (HD.out.below HB1.out) (by omega) (by omega)).mono ?_
  rintro e w2 ⟨⟨z, rfl, hz1, hz2, hz3⟩, hb2⟩
  have HB2 := hid (HB1.out.trans (hb2.mono HB1.out.size))
  have HZ := hid hz3
  clear hb2 KP1 HB1 hz3 c1
  by_cases hneg2 : z < 0
  ·go_wp2
   go_ret
   exact ⟨⟨_, rfl, by omega, by omega, fun h => by omega⟩, HB2.out⟩
  ·have HF : Hid (dkSum d ≤ 1048576) := by
    have h1 := HY.out (by omega)
    have h2 := HZ.out (by omega)
    rw [HNS.out] at h1
    rw [HND.out] at h2
    show dkSum d ≤ _
    unfold dkSum
    omega
   clear HY HZ
   go_wp2
   go_ret
   exact ⟨⟨_, rfl, by omega, by omega, fun _ => HF.out⟩, HB2.out⟩
theorem eqByteS_bel (a a' : Option Addr) (n n' c c' : Nat) (zs zs' : List Int) (w : World) (h : Rd w a n c zs) (h' : Rd w a' n' c' zs') :
  Calls Tryz.prog 121 #[.slice a n c, .slice a' n' c'] w fun e w' => e = .returned (.bool (decide (zs = zs'))) ∧ Below w.heap.size w w' :=
 (eqByteS_any a a' n n' c c' zs zs' w h h').mono (fun e w' ⟨he, q, hw⟩ => ⟨he, by rw [hw]; exact Below.drewN' (Below.refl _ _) q⟩)
set_option maxHeartbeats 2000000 in
theorem eqSheet_any (a a' : Option Addr) (n n' c c' : Nat) (zs zs' : List Int) (w : World) (h : Rd w a n c zs) (h' : Rd w a' n' c' zs') :
  Calls Tryz.prog 80 #[.agg #[.slice a n c], .agg #[.slice a' n' c']] w fun e w' => e = .returned (.bool (decide (zs = zs'))) ∧ Below w.heap.size w w' := by
 have H0 := hid h
 have H0' := hid h'
 clear h h'
 have HB0 : Hid (Below w.heap.size w ((w.alloc (.cells #[.slice a n c] 102)).alloc (.cells #[.slice a' n' c'] 102))) := below_new (below_new (Below.refl _ _))
 go_enter Tryz.func80, Tryz.ntmps80
 go_wp2_with fail
 refine (eqByteS_bel a a' n n' c c' zs zs' _ (H0.out.kept HB0.out) (H0'.out.kept HB0.out)).mono ?_
 rintro e w1 ⟨rfl, hb1⟩
 have HB1 := hid (HB0.out.trans (hb1.mono HB0.out.size))
 clear hb1 HB0
 by_cases he : zs = zs'
 ·have HE := hid (decide_eq_true he)
  rw [decide_eq_true he]
  clear he
  go_wp2
  go_ret
  exact ⟨by rw [HE.out]; rfl, HB1.out⟩
 ·have HE := hid (decide_eq_false he)
  rw [decide_eq_false he]
  clear he
  go_wp2
  go_ret
  exact ⟨by rw [HE.out]; rfl, HB1.out⟩
set_option maxHeartbeats 2000000 in
theorem eqWrite_any (t t' : Int) (a a' : Option Addr) (n n' c c' : Nat) (zs zs' : List Int) (w : World) (h : Rd w a n c zs) (h' : Rd w a' n' c' zs') :
  Calls Tryz.prog 81 #[.agg #[.int .i64 t, .slice a n c], .agg #[.int .i64 t', .slice a' n' c']] w fun e w' => e = .returned (.bool (decide ((t, zs) = (t', zs')))) ∧ Below w.heap.size w w' := by
 have H0 := hid h
 have H0' := hid h'
 clear h h'
 have HB0 : Hid (Below w.heap.size w ((w.alloc (.cells #[.int .i64 t, .slice a n c] 103)).alloc (.cells #[.int .i64 t', .slice a' n' c'] 103))) := below_new (below_new (Below.refl _ _))
 by_cases ht : t = t'
 ·subst ht
  have ht2 : (t != t) = false := by simp
  go_enter Tryz.func81, Tryz.ntmps81
  go_wp2_with fail
  refine (eqByteS_bel a a' n n' c c' zs zs' _ (H0.out.kept HB0.out) (H0'.out.kept HB0.out)).mono ?_
  rintro e w1 ⟨rfl, hb1⟩
  have HB1 := hid (HB0.out.trans (hb1.mono HB0.out.size))
  clear hb1 HB0
  by_cases he : zs = zs'
  ·have HE : Hid (decide ((t, zs) = (t, zs')) = true) := by show _ = _; simp [he]
   rw [decide_eq_true he]
   clear he
   go_wp2
   go_ret
   exact ⟨by rw [HE.out]; rfl, HB1.out⟩
  ·have HE : Hid (decide ((t, zs) = (t, zs')) = false) := by show _ = _; simp [he]
   rw [decide_eq_false he]
   clear he
   go_wp2
   go_ret
   exact ⟨by rw [HE.out]; rfl, HB1.out⟩
 ·have ht2 : (t != t') = true := by simp [ht]
  have HE : Hid (decide ((t, zs) = (t', zs')) = false) := by show _ = _; simp [ht]
  clear ht
  go_enter Tryz.func81, Tryz.ntmps81
  go_wp2
  go_ret
  exact ⟨by rw [HE.out]; rfl, HB0.out⟩
set_option maxHeartbeats 4000000 in
theorem eqSheetS_at (S S' : Nat → Prop) (a a' : Option Addr) (n n' c c' : Nat) (l l' : List (List Int)) (w : World) (h : Shr w S (.slice a n c) l) (h' : Shr w S' (.slice a' n' c') l') (hs : ∀ i, i < l.length → (shAt l i).length ≤ 1048576) (hs' : ∀ i, i < l'.length → (shAt l' i).length ≤ 1048576) :
  Calls Tryz.prog 34 #[.slice a n c, .slice a' n' c'] w fun e w' => e = .returned (.bool (decide (l = l'))) ∧ Below w.heap.size w w' := by
 obtain ⟨hn, hnc, hcc⟩ := h.len
 obtain ⟨hn', hnc', hcc'⟩ := h'.len
 have HN := hid hn
 have HN' := hid hn'
 have H0 := hid h
 have H0' := hid h'
 have HSM := hid hs
 have HSM' := hid hs'
 clear h h' hn hn' hs hs'
 by_cases hne : n = n'
 ·subst hne
  have hz : ((n : Int) != (n : Int)) = false := by simp
  go_enter Tryz.func34, Tryz.ntmps34
  go_wp2
  go_loopw [5] (fun i wr => ∃ k : Nat, k ≤ n ∧ i = .int .i64 k ∧ Hid (Below w.heap.size w wr) ∧ Hid (l.take k = l'.take k)) (fun i _ => n - (intOf i).toNat)
  case atStart => exact ⟨0, Nat.zero_le _, rfl, Below.refl _ _, rfl⟩
  case round =>
   obtain ⟨k, hk, rfl, HB, HT⟩ := hrel
   by_cases hlt : k < n
   ·have hlt' : (k : Int) < (n : Int) := by omega
    have HP := hid (H0.out.below HB.out)
    have HP' := hid (H0'.out.below HB.out)
    obtain ⟨b, off, rfl, _, hbw, hcell⟩ := HP.out.at (by omega)
    obtain ⟨b', off', rfl, _, hbw', hcell'⟩ := HP'.out.at (by omega)
    obtain ⟨ap, np, cp, c0, hp⟩ := hcell k hlt
    obtain ⟨ap', np', cp', d0, hp'⟩ := hcell' k hlt
    have hr := hp.rd (by rw [hp.len.1]; exact HSM.out k (by rw [← HN.out]; exact hlt))
    have hr' := hp'.rd (by rw [hp'.len.1]; exact HSM'.out k (by rw [← HN'.out]; exact hlt))
    have HC : Hid (∀ v, Below wr.heap.size wr v → Calls Tryz.prog 80 #[.agg #[.slice ap np cp], .agg #[.slice ap' np' cp']] v fun e w' => e = .returned (.bool (decide (shAt l k = shAt l' k))) ∧ Below v.heap.size v w') := fun v hv =>
     eqSheet_any ap ap' np np' cp cp' (shAt l k) (shAt l' k) v (hr.kept hv) (hr'.kept hv)
    have HS : Hid (shAt l k = shAt l' k → l.take (k + 1) = l'.take (k + 1)) := by
     intro e
     have hl : k < l.length := by rw [← HN.out]; exact hlt
     have hl' : k < l'.length := by rw [← HN'.out]; exact hlt
     rw [List.take_succ_eq_append_getElem hl, List.take_succ_eq_append_getElem hl', HT.out]
     simp [shAt, hl, hl'] at e
     rw [e]
    have HF : Hid (shAt l k ≠ shAt l' k → decide (l = l') = false) := by
     intro e
     rw [decide_eq_false_iff_not]
     intro e'
     exact e (by rw [e'])
    have T0 := hid (kc0_2 c0 d0)
    clear hcell hcell' hbw hbw' HP HP' HT hp hp' hr hr' c0 d0 
    generalize shAt l k = cx1 at *
    generalize shAt l' k = cx2 at *
    by_cases he : cx1 = cx2
    ·have HS1 := hid (HS.out he)
     rw [decide_eq_true he] at HC
     clear he HS HF
     go_wp2_with fail
     go_region_held3 (fun v => v.cell? ⟨b, off + k, none⟩ = some (.slice ap np cp) ∧ v.cell? ⟨b', off' + k, none⟩ = some (.slice ap' np' cp') ∧ KC wr v [(⟨b, off + k, none⟩, .slice ap np cp), (⟨b', off' + k, none⟩, .slice ap' np' cp')])
      (first | assumption | exact kc2 (T0.out.call (below_drew _)) | exact kc2c hbC (by assumption))
      (first | (go_at_call 80; refine (HC.out _ (KC.bel (by first | exact (by assumption : _ ∧ _ ∧ _).2.2))).mono ?_; rintro e w' ⟨rfl, hbC⟩))
     all_goals (rename_i hS; have HB1 := hid (Below.then' HB.out hS.2.2.bel (Nat.le_refl _)); clear hS; go_wp2)
     go_roundw
     case rel => exact ⟨k + 1, by omega, by go_num, HB1.out, HS1.out⟩
     case measure => simp [intOf]; omega
    ·have HF1 := hid (HF.out he)
     rw [decide_eq_false he] at HC
     clear he HS HF
     go_wp2_with fail
     go_region_held3 (fun v => v.cell? ⟨b, off + k, none⟩ = some (.slice ap np cp) ∧ v.cell? ⟨b', off' + k, none⟩ = some (.slice ap' np' cp') ∧ KC wr v [(⟨b, off + k, none⟩, .slice ap np cp), (⟨b', off' + k, none⟩, .slice ap' np' cp')])
      (first | assumption | exact kc2 (T0.out.call (below_drew _)) | exact kc2c hbC (by assumption))
      (first | (go_at_call 80; refine (HC.out _ (KC.bel (by first | exact (by assumption : _ ∧ _ ∧ _).2.2))).mono ?_; rintro e w' ⟨rfl, hbC⟩))
     all_goals (rename_i hS; have HB1 := hid (Below.then' HB.out hS.2.2.bel (Nat.le_refl _)); clear hS; go_wp2)
     go_ret
     exact ⟨by rw [HF1.out]; rfl, HB1.out⟩
   ·have HF : Hid (decide (l = l') = true) := by
     show decide (l = l') = true
     have hk' : k = n := by omega
     have e := HT.out
     have e1 : l.length ≤ k := by rw [← HN.out]; omega
     have e2 : l'.length ≤ k := by rw [← HN'.out]; omega
     rw [List.take_of_length_le e1, List.take_of_length_le e2] at e
     simp [e]
    clear HT
    go_wp2
    go_ret
    exact ⟨by rw [HF.out]; rfl, HB.out⟩
 ·have hz : ((n : Int) != (n' : Int)) = true := by simp; omega
  have HF : Hid (decide (l = l') = false) := by
   show decide (l = l') = false
   rw [decide_eq_false_iff_not]
   intro e
   exact hne (by rw [HN.out, HN'.out, e])
  clear hne
  go_enter Tryz.func34, Tryz.ntmps34
  go_wp2
  go_ret
  exact ⟨by rw [HF.out]; rfl, Below.refl _ _⟩
set_option maxHeartbeats 4000000 in
theorem eqWriteS_at (S S' : Nat → Prop) (a a' : Option Addr) (n n' c c' : Nat) (l l' : List DW) (w : World) (h : Wrr w S (.slice a n c) l) (h' : Wrr w S' (.slice a' n' c') l') (hs : ∀ i, i < l.length → (dwAt l i).2.length ≤ 1048576) (hs' : ∀ i, i < l'.length → (dwAt l' i).2.length ≤ 1048576) :
  Calls Tryz.prog 35 #[.slice a n c, .slice a' n' c'] w fun e w' => e = .returned (.bool (decide (l = l'))) ∧ Below w.heap.size w w' := by
 obtain ⟨hn, hnc, hcc⟩ := h.len
 obtain ⟨hn', hnc', hcc'⟩ := h'.len
 have HN := hid hn
 have HN' := hid hn'
 have H0 := hid h
 have H0' := hid h'
 have HSM := hid hs
 have HSM' := hid hs'
 clear h h' hn hn' hs hs'
 by_cases hne : n = n'
 ·subst hne
  have hz : ((n : Int) != (n : Int)) = false := by simp
  go_enter Tryz.func35, Tryz.ntmps35
  go_wp2
  go_loopw [5] (fun i wr => ∃ k : Nat, k ≤ n ∧ i = .int .i64 k ∧ Hid (Below w.heap.size w wr) ∧ Hid (l.take k = l'.take k)) (fun i _ => n - (intOf i).toNat)
  case atStart => exact ⟨0, Nat.zero_le _, rfl, Below.refl _ _, rfl⟩
  case round =>
   obtain ⟨k, hk, rfl, HB, HT⟩ := hrel
   by_cases hlt : k < n
   ·have hlt' : (k : Int) < (n : Int) := by omega
    have HP := hid (H0.out.below HB.out)
    have HP' := hid (H0'.out.below HB.out)
    obtain ⟨b, off, rfl, _, hbw, hcell⟩ := HP.out.at (by omega)
    obtain ⟨b', off', rfl, _, hbw', hcell'⟩ := HP'.out.at (by omega)
    obtain ⟨ap, np, cp, ct, c0, hp⟩ := hcell k hlt
    obtain ⟨ap', np', cp', dt, d0, hp'⟩ := hcell' k hlt
    have hr := hp.rd (by rw [hp.len.1]; exact HSM.out k (by rw [← HN.out]; exact hlt))
    have hr' := hp'.rd (by rw [hp'.len.1]; exact HSM'.out k (by rw [← HN'.out]; exact hlt))
    have HC : Hid (∀ v, Below wr.heap.size wr v → Calls Tryz.prog 81 #[.agg #[.int .i64 (dwAt l k).1, .slice ap np cp], .agg #[.int .i64 (dwAt l' k).1, .slice ap' np' cp']] v fun e w' => e = .returned (.bool (decide (dwAt l k = dwAt l' k))) ∧ Below v.heap.size v w') := fun v hv =>
     eqWrite_any (dwAt l k).1 (dwAt l' k).1 ap ap' np np' cp cp' (dwAt l k).2 (dwAt l' k).2 v (hr.kept hv) (hr'.kept hv)
    have HS : Hid (dwAt l k = dwAt l' k → l.take (k + 1) = l'.take (k + 1)) := by
     intro e
     have hl : k < l.length := by rw [← HN.out]; exact hlt
     have hl' : k < l'.length := by rw [← HN'.out]; exact hlt
     rw [List.take_succ_eq_append_getElem hl, List.take_succ_eq_append_getElem hl', HT.out]
     simp [dwAt, hl, hl'] at e
     rw [e]
    have HF : Hid (dwAt l k ≠ dwAt l' k → decide (l = l') = false) := by
     intro e
     rw [decide_eq_false_iff_not]
     intro e'
     exact e (by rw [e'])
    have T0 := hid (kc0_4 ct c0 dt d0)
    clear hcell hcell' hbw hbw' HP HP' HT hp hp' hr hr' ct c0 dt d0 
    generalize dwAt l k = cx1 at *
    generalize dwAt l' k = cx2 at *
    by_cases he : cx1 = cx2
    ·have HS1 := hid (HS.out he)
     rw [decide_eq_true he] at HC
     clear he HS HF
     go_wp2_with fail
     go_region_held3 (fun v => v.cell? ⟨b, off + k * 2, none⟩ = some (.int .i64 cx1.1) ∧ v.cell? ⟨b, off + k * 2 + 1, none⟩ = some (.slice ap np cp) ∧ v.cell? ⟨b', off' + k * 2, none⟩ = some (.int .i64 cx2.1) ∧ v.cell? ⟨b', off' + k * 2 + 1, none⟩ = some (.slice ap' np' cp') ∧ KC wr v [(⟨b, off + k * 2, none⟩, .int .i64 cx1.1), (⟨b, off + k * 2 + 1, none⟩, .slice ap np cp), (⟨b', off' + k * 2, none⟩, .int .i64 cx2.1), (⟨b', off' + k * 2 + 1, none⟩, .slice ap' np' cp')])
      (first | assumption | exact kc4 (T0.out.call (below_drew _)) | exact kc4c hbC (by assumption))
      (first | (go_at_call 81; refine (HC.out _ (KC.bel (by first | exact (by assumption : _ ∧ _ ∧ _ ∧ _ ∧ _).2.2.2.2))).mono ?_; rintro e w' ⟨rfl, hbC⟩))
     all_goals (rename_i hS; have HB1 := hid (Below.then' HB.out hS.2.2.2.2.bel (Nat.le_refl _)); clear hS; go_wp2)
     go_roundw
     case rel => exact ⟨k + 1, by omega, by go_num, HB1.out, HS1.out⟩
     case measure => simp [intOf]; omega
    ·have HF1 := hid (HF.out he)
     rw [decide_eq_false he] at HC
     clear he HS HF
     go_wp2_with fail
     go_region_held3 (fun v => v.cell? ⟨b, off + k * 2, none⟩ = some (.int .i64 cx1.1) ∧ v.cell? ⟨b, off + k * 2 + 1, none⟩ = some (.slice ap np cp) ∧ v.cell? ⟨b', off' + k * 2, none⟩ = some (.int .i64 cx2.1) ∧ v.cell? ⟨b', off' + k * 2 + 1, none⟩ = some (.slice ap' np' cp') ∧ KC wr v [(⟨b, off + k * 2, none⟩, .int .i64 cx1.1), (⟨b, off + k * 2 + 1, none⟩, .slice ap np cp), (⟨b', off' + k * 2, none⟩, .int .i64 cx2.1), (⟨b', off' + k * 2 + 1, none⟩, .slice ap' np' cp')])
      (first | assumption | exact kc4 (T0.out.call (below_drew _)) | exact kc4c hbC (by assumption))
      (first | (go_at_call 81; refine (HC.out _ (KC.bel (by first | exact (by assumption : _ ∧ _ ∧ _ ∧ _ ∧ _).2.2.2.2))).mono ?_; rintro e w' ⟨rfl, hbC⟩))
     all_goals (rename_i hS; have HB1 := hid (Below.then' HB.out hS.2.2.2.2.bel (Nat.le_refl _)); clear hS; go_wp2)
     go_ret
     exact ⟨by rw [HF1.out]; rfl, HB1.out⟩
   ·have HF : Hid (decide (l = l') = true) := by
     show decide (l = l') = true
     have hk' : k = n := by omega
     have e := HT.out
     have e1 : l.length ≤ k := by rw [← HN.out]; omega
     have e2 : l'.length ≤ k := by rw [← HN'.out]; omega
     rw [List.take_of_length_le e1, List.take_of_length_le e2] at e
     simp [e]
    clear HT
    go_wp2
    go_ret
    exact ⟨by rw [HF.out]; rfl, HB.out⟩
 ·have hz : ((n : Int) != (n' : Int)) = true := by simp; omega
  have HF : Hid (decide (l = l') = false) := by
   show decide (l = l') = false
   rw [decide_eq_false_iff_not]
   intro e
   exact hne (by rw [HN.out, HN'.out, e])
  clear hne
  go_enter Tryz.func35, Tryz.ntmps35
  go_wp2
  go_ret
  exact ⟨by rw [HF.out]; rfl, Below.refl _ _⟩
set_option maxHeartbeats 2000000 in
theorem eqDisk_any (S S' : Nat → Prop) (sa : Option Addr) (sn sc : Nat) (da : Option Addr) (dn dc : Nat) (d : DK) (sa' : Option Addr) (sn' sc' : Nat) (da' : Option Addr) (dn' dc' : Nat) (d' : DK) (w : World) (h : Dk w S sa sn sc da dn dc d) (h' : Dk w S' sa' sn' sc' da' dn' dc' d') (hs : smallD d) (hs' : smallD d') :
  Calls Tryz.prog 11 #[.agg #[.slice sa sn sc, .slice da dn dc], .agg #[.slice sa' sn' sc', .slice da' dn' dc']] w fun e w' => e = .returned (.bool (decide (d = d'))) ∧ Below w.heap.size w w' := by
 have H0 := hid h
 have H0' := hid h'
 have HS := hid hs
 have HS' := hid hs'
 clear h h' hs hs'
 have HB0 : Hid (Below w.heap.size w ((w.alloc (.cells #[.slice sa sn sc, .slice da dn dc] 30)).alloc (.cells #[.slice sa' sn' sc', .slice da' dn' dc'] 30))) := below_new (below_new (Below.refl _ _))
 have KA : Hid (Bk ((w.alloc (.cells #[.slice sa sn sc, .slice da dn dc] 30)).alloc (.cells #[.slice sa' sn' sc', .slice da' dn' dc'] 30)) w.heap.size 30 [.slice sa sn sc, .slice da dn dc]) := (Bk.new w 30 [.slice sa sn sc, .slice da dn dc]).alloc _
 have KB : Hid (Bk ((w.alloc (.cells #[.slice sa sn sc, .slice da dn dc] 30)).alloc (.cells #[.slice sa' sn' sc', .slice da' dn' dc'] 30)) (w.heap.size + 1) 30 [.slice sa' sn' sc', .slice da' dn' dc']) := by
  have := Bk.new (w.alloc (.cells #[.slice sa sn sc, .slice da dn dc] 30)) 30 [.slice sa' sn' sc', .slice da' dn' dc']
  show Bk _ _ _ _
  simpa using this
 go_enter Tryz.func11, Tryz.ntmps11
 go_wp2_with fail
 refine (eqSheetS_at S S' sa sa' sn sn' sc sc' d.sh d'.sh _ (H0.out.hs.below HB0.out) (H0'.out.hs.below HB0.out) HS.out.1 HS'.out.1).mono ?_
 generalize (w.alloc (.cells #[.slice sa sn sc, .slice da dn dc] 30)).alloc (.cells #[.slice sa' sn' sc', .slice da' dn' dc'] 30) = W at *
 rintro e w1 ⟨rfl, hb1⟩
 have HB1 := hid (HB0.out.trans (hb1.mono HB0.out.size))
 have KA1 := hid (KA.out.below hb1)
 have KB1 := hid (KB.out.below hb1)
 clear hb1 HB0 KA KB
 by_cases h1 : d.sh = d'.sh
 ·rw [decide_eq_true h1]
  have HH1 := hid h1
  clear h1
  have c0 := KA1.out.cell (j := 1) rfl
  have d0 := KB1.out.cell (j := 1) rfl
  go_wp2_with fail
  refine (eqWriteS_at S S' da da' dn dn' dc dc' d.dw d'.dw _ (H0.out.hd.below HB1.out) (H0'.out.hd.below HB1.out) HS.out.2 HS'.out.2).mono ?_
  rintro e w2 ⟨rfl, hb2⟩
  have HB2 := hid (HB1.out.trans (hb2.mono HB1.out.size))
  clear hb2 HB1 KA1 KB1 c0 d0
  by_cases h2 : d.dw = d'.dw
  ·rw [decide_eq_true h2]
   have HF : Hid (decide (d = d') = true) := by
    show _ = _
    rw [decide_eq_true_eq]
    have e1 := HH1.out
    cases d; cases d'; simp_all
   clear h2
   go_wp2
   go_ret
   exact ⟨by rw [HF.out]; rfl, HB2.out⟩
  ·rw [decide_eq_false h2]
   have HF : Hid (decide (d = d') = false) := by
    show _ = _
    rw [decide_eq_false_iff_not]
    rintro rfl
    exact h2 rfl
   clear h2
   go_wp2
   go_ret
   exact ⟨by rw [HF.out]; rfl, HB2.out⟩
 ·rw [decide_eq_false h1]
  have HF : Hid (decide (d = d') = false) := by
   show _ = _
   rw [decide_eq_false_iff_not]
   rintro rfl
   exact h1 rfl
  clear h1
  go_wp2
  go_ret
  exact ⟨by rw [HF.out]; rfl, HB1.out⟩
open Go.RowKit
def marks (k : Int) (n : Nat) : List Int := (List.range n).map fun i : Nat => (k + (i : Int)) % 256
open Go.RowKit
set_option linter.unusedVariables false
def offW (ds : List DW) : Nat → Nat
 | 0 => 0
 | k + 1 => offW ds k + 1 + (dwAt ds k).2.length
def dkTot (d : DK) : Nat := offS d.sh d.sh.length + offW d.dw d.dw.length
def LBy (w : World) (v : Value) (n q : Nat) : Prop := ∃ a c, v = .slice a n c ∧ Rd w a n c (marks (q : Int) n)
structure SM (w : World) (v : Value) (V : List Value) (ss : List (List Int)) (k : Nat) : Prop where
 len : V.length = ss.length
 row : w.ownsRow 0 102 1 v ss.length V
 lie : ∀ i, i < ss.length → LBy w (uAt V i) (shAt ss i).length (k + offS ss i)
structure WM (w : World) (v : Value) (U : List (Int × Value)) (ds : List DW) (k : Nat) : Prop where
 len : U.length = ds.length
 row : ∃ U' : List (Int × Value), U'.length = ds.length ∧ w.ownsRow 0 103 2 v ds.length (wcs U') ∧ (∀ i, (xAt U' i).2 = (xAt U i).2) ∧ ∀ i, i < ds.length → (xAt U' i).1 = ((k + offW ds i : Nat) : Int)
 lie : ∀ i, i < ds.length → LBy w (xAt U i).2 (dwAt ds i).2.length (k + offW ds i + 1)
structure DM (w : World) (sv : Value) (V : List Value) (dv : Value) (U : List (Int × Value)) (d : DK) (k : Nat) : Prop where
 hs : SM w sv V d.sh k
 hd : WM w dv U d.dw (k + offS d.sh d.sh.length)
open Go.RowKit
set_option linter.unusedVariables false
def DkPost1 (d : DK) (w : World) (e : Ending) (w' : World) : Prop := ∃ sa sn sc da dn dc V U, e = .returned (.agg #[.slice sa sn sc, .slice da dn dc]) ∧ DO w' w.heap.size (.slice sa sn sc) V (.slice da dn dc) U d ∧ Below w.heap.size w w'
open Go.RowKit
set_option linter.unusedVariables false
theorem step_append_g {P : Program} {w : World} {ops : Array Oper} {o : Oper} {a : Act} {K : Act → World → Prop} {Q : Exit → Act → World → Prop} {E : Prop} (hgd : o.guard = none) (s x : Operand) (t : TypeId)
  (ho : o.op = .call { callee := .builtin .append, args := #[s, x], argTypes := #[t, t] }) (B : Nat) (e : TypeId) (z : Value) (size bytes : Nat) (ht : P.underlying t = some (.slice e)) (hinfo : (P.info? e).map (fun i => (i.zero, i.size, i.bytes)) = some (some z, size, bytes)) (hzs : z.cells.size = size) (hsz : 0 < size) (hby : bytes ≤ 64)
  (v : Value) (n : Nat) (xs : List Value) (hs : a.eval s = v) (hown : w.ownsRow B e size v n xs) (g : Nat) (news : List Value) (hx : a.eval x = .slice (some ⟨g, 0, none⟩) 1 1) (hB : Rw w (fun _ => True) (.slice (some ⟨g, 0, none⟩) 1 1) 1 news) (hl : news.length = size) (h1 : ∀ u ∈ news, u.oneCell' = true) (hb : n ≤ 1048576) (hbase : B ≤ w.heap.size)
  (b0 o0 : Nat) (x0 : Value) (hc0 : w.cell? ⟨b0, o0, none⟩ = some x0) (hf0 : w.frozen? ⟨b0, o0, none⟩ = false) (hne : v.ownBlock ≠ some b0)
  (h : ∀ a' n' c' w', w'.ownsRow B e size (.slice a' n' c') (n + 1) (xs ++ news) → w.grownBy w' v.ownBlock → ((Value.slice a' n' c').ownBlock = v.ownBlock ∨ (Value.slice a' n' c').ownBlock = some w.heap.size) → w'.cell? ⟨b0, o0, none⟩ = some x0 → w'.frozen? ⟨b0, o0, none⟩ = false → K (a.put o.dst (.slice a' n' c')) w') :
  if Region.wanted o (yielded ops a.tmps) = true then Oper.wp P o a w K Q else E := by
 have hw : Region.wanted o (yielded ops a.tmps) = true := by simp [Region.wanted, hgd]
 rw [if_pos hw]
 obtain ⟨i, hi, hz, hsz', hby'⟩ := info_of hinfo
 obtain ⟨v', w', hr, h2, h3, h5⟩ := run_append_row_at (P := P) (w := w) B t o.type e i z size bytes ht hi hz hsz' hby' hzs hsz v n xs hown (fun _ => True) _ 1 news hB (by omega) h1 (by unfold maxLen; omega) (by have := Nat.mul_le_mul (show n + 1 ≤ 1048577 by omega) hby; omega) hbase
 obtain ⟨a', c', rfl⟩ := own_shape h2
 have hbl := h3.block b0 (block_lt hc0) (fun e => hne e.symm)
 unfold Oper.wp execOp
 simp only [ho, resolve, invoke, builtin, Sem.run_bind, Sem.run_pure, Result.andThen_ok, List.map_toArray, List.map_cons, List.map_nil, hs, hx, hr]
 exact h a' _ c' w' h2 h3 h5 ((World.cell?_of_block (w := w) (a := ⟨b0, o0, none⟩) hbl).trans hc0) ((World.frozen?_of_block (w := w) (a := ⟨b0, o0, none⟩) hbl).trans hf0)
theorem step_append_rd {w : World} {ops : Array Oper} {o : Oper} {a : Act} {K : Act → World → Prop} {Q : Exit → Act → World → Prop} {E : Prop} (hgd : o.guard = none) (s x : Operand)
  (ho : o.op = .call { callee := .builtin .append, args := #[s, x], argTypes := #[89, 89] }) (base : Nat) (v : Value) (zs : List Int) (hs : a.eval s = v) (hown : Ob w base v zs)
  (ao : Option Addr) (m c : Nat) (ys : List Int) (hx : a.eval x = .slice ao m c) (hsrc : Rd w ao m c ys) (hb : zs.length + ys.length ≤ 70368744177664) (hbase : base ≤ w.heap.size)
  (h : ∀ a' n' c' w', Ob w' base (.slice a' n' c') (zs ++ ys) → w.grownBy w' v.ownBlock → K (a.put o.dst (.slice a' n' c')) w') : if Region.wanted o (yielded ops a.tmps) = true then Oper.wp Tryz.prog o a w K Q else E := by
 have hw : Region.wanted o (yielded ops a.tmps) = true := by simp [Region.wanted, hgd]
 rw [if_pos hw]
 obtain ⟨v', w', hr, h2, h3⟩ := run_append_rd (w := w) o.type base v zs hown ao m c ys hsrc hb hbase
 obtain ⟨a', c', rfl⟩ := h2.shape
 unfold Oper.wp execOp
 simp only [ho, resolve, invoke, builtin, Sem.run_bind, Sem.run_pure, Result.andThen_ok, List.map_toArray, List.map_cons, List.map_nil, hs, hx, hr]
 exact h a' _ c' w' h2 h3
theorem bt7 {u v w : World} (h : Below u.heap.size u v) (k : Below v.heap.size v w) : Below u.heap.size u w := h.trans (k.mono h.size)
structure CX (w v : World) (sa : Option Addr) (sn sc : Nat) (da : Option Addr) (dn dc : Nat) (xa : Option Addr) (xn xc : Nat) (ya : Option Addr) (yn yc : Nat) (V : List Value) (U : List (Int × Value)) (d : DK) : Prop where
 bel : Below w.heap.size w v
 k0 : Bk v w.heap.size 30 [.slice sa sn sc, .slice da dn dc]
 k1 : Bk v (w.heap.size + 1) 30 [.slice none 0 0, .slice none 0 0]
 k2 : Bk v (w.heap.size + 1 + 1) 30 [.slice xa xn xc, .slice ya yn yc]
 own : DO v (w.heap.size + 3) (.slice xa xn xc) V (.slice ya yn yc) U d
theorem CX.below {w v v' : World} {sa : Option Addr} {sn sc : Nat} {da : Option Addr} {dn dc : Nat} {xa : Option Addr} {xn xc : Nat} {ya : Option Addr} {yn yc : Nat} {V : List Value} {U : List (Int × Value)} {d : DK} (h : CX w v sa sn sc da dn dc xa xn xc ya yn yc V U d) (hb : Below v.heap.size v v') : CX w v' sa sn sc da dn dc xa xn xc ya yn yc V U d :=
 ⟨bt7 h.bel hb, h.k0.below hb, h.k1.below hb, h.k2.below hb, h.own.below hb⟩
theorem CX.start (w : World) (sa : Option Addr) (sn sc : Nat) (da : Option Addr) (dn dc : Nat) : CX w (((w.alloc (.cells #[.slice sa sn sc, .slice da dn dc] 30)).alloc (.cells #[.slice none 0 0, .slice none 0 0] 30)).alloc (.cells #[.slice none 0 0, .slice none 0 0] 30)) sa sn sc da dn dc none 0 0 none 0 0 [] [] ⟨[], []⟩ := by
 refine ⟨below_new (below_new (below_new (Below.refl _ _))), ((Bk.new w 30 [.slice sa sn sc, .slice da dn dc]).alloc _).alloc _, ?_, ?_, do_nil _ _⟩
 ·have := (Bk.new (w.alloc (.cells #[.slice sa sn sc, .slice da dn dc] 30)) 30 [.slice none 0 0, .slice none 0 0]).alloc (.cells #[.slice none 0 0, .slice none 0 0] 30)
  simpa using this
 ·have := Bk.new ((w.alloc (.cells #[.slice sa sn sc, .slice da dn dc] 30)).alloc (.cells #[.slice none 0 0, .slice none 0 0] 30)) 30 [.slice none 0 0, .slice none 0 0]
  simpa using this
theorem CX.pushS {w v u w5 : World} {sa : Option Addr} {sn sc : Nat} {da : Option Addr} {dn dc : Nat} {xa : Option Addr} {xn xc : Nat} {ya : Option Addr} {yn yc : Nat} {V : List Value} {U : List (Int × Value)} {ss : List (List Int)} {ds : List DW} (h : CX w v sa sn sc da dn dc xa xn xc ya yn yc V U ⟨ss, ds⟩) (hb : Below v.heap.size v u) (x : List Int) (p : Value) (hx : Ob u v.heap.size p x) (hxb : byt x)
  {a5 : Option Addr} {n5 c5 : Nat} (ho : w5.ownsRow (w.heap.size + 3) 102 1 (.slice a5 n5 c5) (ss.length + 1) (V ++ [p])) (hg : u.grownBy w5 (Value.slice xa xn xc).ownBlock) (ha : (Value.slice a5 n5 c5).ownBlock = (Value.slice xa xn xc).ownBlock ∨ (Value.slice a5 n5 c5).ownBlock = some u.heap.size) :
  CX w (w5.setCell ⟨w.heap.size + 1 + 1, 0, none⟩ (.slice a5 n5 c5)) sa sn sc da dn dc a5 n5 c5 ya yn yc (V ++ [p]) U ⟨ss ++ [x], ds⟩ := by
 have hu := h.below hb
 have hv3 : w.heap.size + 3 ≤ v.heap.size := h.k2.lt
 have hlt := hb.size
 have o : Only (fun y => (Value.slice xa xn xc).ownBlock = some y) u w5 := only_of_grown hg (fun k e => e)
 have hxo : ∀ y, (Value.slice xa xn xc).ownBlock = some y → w.heap.size + 3 ≤ y ∧ y < v.heap.size := fun y e => World.ownsRow.lt h.own.hs.row y e
 have hnew : ∀ y, p.ownBlock = some y → v.heap.size ≤ y ∧ y < u.heap.size := fun y e => World.ownsRow.lt hx y e
 have hS := hu.own.hs.push x p (ownD_base hx (by omega)) hxb (fun y e e2 => by have h1 := hnew y e; have h2 := (h.own.hs.lt e2).2; omega) ho hg ha
 have hW := hu.own.hd.to o (fun y e e2 => hu.own.ap y (.inl e2) e)
 have hne : ∀ y, (Value.slice xa xn xc).ownBlock = some y → y ≠ w.heap.size ∧ y ≠ w.heap.size + 1 ∧ y ≠ w.heap.size + 1 + 1 := fun y e => by have := (hxo y e).1; omega
 have k0 := hu.k0.to o (fun e => (hne _ e).1 rfl)
 have k1 := hu.k1.to o (fun e => (hne _ e).2.1 rfl)
 have k2 := hu.k2.to o (fun e => (hne _ e).2.2 rfl)
 have b5 : Below w.heap.size w w5 := hu.bel.trans (o.below hu.bel.size (fun y hy e => by have := (hxo y e).1; omega))
 have o2 : Only (fun y => y = w.heap.size + 1 + 1) w5 (w5.setCell ⟨w.heap.size + 1 + 1, 0, none⟩ (.slice a5 n5 c5)) := only_set (R := fun y => y = w.heap.size + 1 + 1) rfl _
 refine ⟨b5.setCell (p := ⟨w.heap.size + 1 + 1, 0, none⟩) (by show w.heap.size ≤ w.heap.size + 1 + 1; omega) _, k0.setOther (by omega) _ _, k1.setOther (by omega) _ _, k2.set 0 _, ?_, ?_, ?_⟩
 ·exact hS.to o2 (fun y e e2 => by have := (hS.lt e).1; omega)
 ·exact hW.to o2 (fun y e e2 => by have := (hW.lt e).1; omega)
 ·intro y hy hz
  have h3 := (h.own.hd.lt hz).2
  rcases hy with e | ⟨i, hi, e⟩
  ·rcases ha with ha | ha
   ·rw [ha] at e; exact h.own.ap y (.inl e) hz
   ·rw [ha] at e; cases e; omega
  ·rw [List.length_append] at hi
   by_cases hi2 : i < V.length
   ·rw [uAt_left hi2] at e; exact h.own.ap y (.inr ⟨i, hi2, e⟩) hz
   ·obtain rfl : i = V.length := by simp at hi; omega
    rw [uAt_end] at e
    have := (hnew y e).1
    omega
theorem CX.pushW {w v u w5 : World} {sa : Option Addr} {sn sc : Nat} {da : Option Addr} {dn dc : Nat} {xa : Option Addr} {xn xc : Nat} {ya : Option Addr} {yn yc : Nat} {V : List Value} {U : List (Int × Value)} {ss : List (List Int)} {ds : List DW} (h : CX w v sa sn sc da dn dc xa xn xc ya yn yc V U ⟨ss, ds⟩) (hb : Below v.heap.size v u) (t : Int) (x : List Int) (p : Value) (hx : Ob u v.heap.size p x) (hxb : byt x)
  {a5 : Option Addr} {n5 c5 : Nat} (ho : w5.ownsRow (w.heap.size + 3) 103 2 (.slice a5 n5 c5) (ds.length + 1) (wcs U ++ [.int .i64 t, p])) (hg : u.grownBy w5 (Value.slice ya yn yc).ownBlock) (ha : (Value.slice a5 n5 c5).ownBlock = (Value.slice ya yn yc).ownBlock ∨ (Value.slice a5 n5 c5).ownBlock = some u.heap.size) :
  CX w (w5.setCell ⟨w.heap.size + 1 + 1, 1, none⟩ (.slice a5 n5 c5)) sa sn sc da dn dc xa xn xc a5 n5 c5 V (U ++ [(t, p)]) ⟨ss, ds ++ [(t, x)]⟩ := by
 have hu := h.below hb
 have hv3 : w.heap.size + 3 ≤ v.heap.size := h.k2.lt
 have hlt := hb.size
 have o : Only (fun y => (Value.slice ya yn yc).ownBlock = some y) u w5 := only_of_grown hg (fun k e => e)
 have hxo : ∀ y, (Value.slice ya yn yc).ownBlock = some y → w.heap.size + 3 ≤ y ∧ y < v.heap.size := fun y e => World.ownsRow.lt h.own.hd.row y e
 have hnew : ∀ y, p.ownBlock = some y → v.heap.size ≤ y ∧ y < u.heap.size := fun y e => World.ownsRow.lt hx y e
 have hW := hu.own.hd.push t x p (ownD_base hx (by omega)) hxb (fun y e e2 => by have h1 := hnew y e; have h2 := (h.own.hd.lt e2).2; omega) ho hg ha
 have hS := hu.own.hs.to o (fun y e e2 => hu.own.ap y e (.inl e2))
 have hne : ∀ y, (Value.slice ya yn yc).ownBlock = some y → y ≠ w.heap.size ∧ y ≠ w.heap.size + 1 ∧ y ≠ w.heap.size + 1 + 1 := fun y e => by have := (hxo y e).1; omega
 have k0 := hu.k0.to o (fun e => (hne _ e).1 rfl)
 have k1 := hu.k1.to o (fun e => (hne _ e).2.1 rfl)
 have k2 := hu.k2.to o (fun e => (hne _ e).2.2 rfl)
 have b5 : Below w.heap.size w w5 := hu.bel.trans (o.below hu.bel.size (fun y hy e => by have := (hxo y e).1; omega))
 have o2 : Only (fun y => y = w.heap.size + 1 + 1) w5 (w5.setCell ⟨w.heap.size + 1 + 1, 1, none⟩ (.slice a5 n5 c5)) := only_set (R := fun y => y = w.heap.size + 1 + 1) rfl _
 refine ⟨b5.setCell (p := ⟨w.heap.size + 1 + 1, 1, none⟩) (by show w.heap.size ≤ w.heap.size + 1 + 1; omega) _, k0.setOther (by omega) _ _, k1.setOther (by omega) _ _, k2.set 1 _, ?_, ?_, ?_⟩
 ·exact hS.to o2 (fun y e e2 => by have := (hS.lt e).1; omega)
 ·exact hW.to o2 (fun y e e2 => by have := (hW.lt e).1; omega)
 ·intro y hy hz
  have h3 := (h.own.hs.lt hy).2
  rcases hz with e | ⟨i, hi, e⟩
  ·rcases ha with ha | ha
   ·rw [ha] at e; exact h.own.ap y hy (.inl e)
   ·rw [ha] at e; cases e; omega
  ·rw [List.length_append] at hi
   by_cases hi2 : i < U.length
   ·rw [xAt_left hi2] at e; exact h.own.ap y hy (.inr ⟨i, hi2, e⟩)
   ·obtain rfl : i = U.length := by simp at hi; omega
    rw [xAt_end] at e
    have := (hnew y e).1
    omega
theorem take_sh {ss : List (List Int)} {k : Nat} (h : k < ss.length) : ss.take (k + 1) = ss.take k ++ [shAt ss k] := by
 rw [List.take_succ_eq_append_getElem h]; simp [shAt, h]
theorem take_dw {ds : List DW} {k : Nat} (h : k < ds.length) : ds.take (k + 1) = ds.take k ++ [((dwAt ds k).1, (dwAt ds k).2)] := by
 rw [List.take_succ_eq_append_getElem h]; congr 1; simp [dwAt, h]
theorem rw_one {w : World} {g : Nat} {T : TypeId} {p : Value} (h : Bk w g T [p]) : Rw w (fun _ => True) (.slice (some ⟨g, 0, none⟩) 1 1) 1 [p] := h.rw (Nat.le_refl _) (by omega) (fun h => by omega) _ trivial
theorem rw_two {w : World} {g : Nat} {T : TypeId} {p q : Value} (h : Bk w g T [p, q]) : Rw w (fun _ => True) (.slice (some ⟨g, 0, none⟩) 1 1) 1 [p, q] := h.rw (Nat.le_refl _) (by omega) (fun h => by omega) _ trivial
open Go.RowKit
set_option linter.unusedVariables false
set_option maxHeartbeats 2000000 in
theorem indexI_any (S : Nat → Prop) (a : Option Addr) (n c : Nat) (l : List Int) (t : Int) (w : World) (h : Ir w S (.slice a n c) l) :
  Calls Tryz.prog 148 #[.slice a n c, .int .i64 t] w fun e w' => (∃ x : Int, e = .returned (.int .i64 x) ∧ (0 ≤ x ↔ t ∈ l) ∧ -1 ≤ x ∧ x ≤ 9223372036854775807) ∧ w = w' := by
 have HN := hid (Rw.len h).1
 have bk := (Rw.len h).2
 have H0 := hid h
 clear h
 go_enter Tryz.func148, Tryz.ntmps148
 go_wp2_with fail
 go_loopw [8] (fun i v => ∃ k : Nat, k ≤ n ∧ i = .int .i64 k ∧ v = w ∧ Hid (t ∉ l.take k)) (fun i _ => n - (intOf i).toNat)
 case atStart => exact ⟨0, Nat.zero_le _, rfl, rfl, (by show _ ∉ _; simp)⟩
 case round =>
  obtain ⟨m, hm, rfl, rfl, HT⟩ := hrel
  by_cases hlt : m < n
  ·have hlt' : (m : Int) < (n : Int) := by omega
   have hml : m < l.length := by rw [← HN.out]; exact hlt
   obtain ⟨b, off, ha, -, -, hcell⟩ := H0.out.at (by omega)
   have hcm := hcell m hlt
   clear hcell
   subst ha
   have HC : Hid (l[m]'hml = iAt l m) := by show _ = _; simp [iAt, hml]
   have HTK : Hid (l.take (m + 1) = l.take m ++ [iAt l m]) := by show _ = _; rw [List.take_succ_eq_append_getElem hml, HC.out]
   have HMM : Hid (iAt l m ∈ l) := by rw [← HC.out]; exact List.getElem_mem hml
   clear hml HC
   generalize iAt l m = cur at *
   by_cases he : t = cur
   ·subst he
    go_wp2
    go_ret
    exact ⟨⟨_, rfl, ⟨fun _ => HMM.out, fun _ => by omega⟩, by omega, by omega⟩, rfl⟩
   ·have he' : (t == cur) = false := by simp [he]
    have HT2 : Hid (t ∉ l.take (m + 1)) := by
     show _ ∉ _
     rw [HTK.out]
     simp [he]
     exact HT.out
    go_wp2
    go_roundw
    case rel => exact ⟨m + 1, by omega, by go_num, by trivial, HT2.out⟩
    case measure => simp [intOf]; omega
  ·have HA : Hid (t ∉ l) := by
    have := HT.out
    rwa [List.take_of_length_le (by rw [← HN.out]; omega)] at this
   go_wp2
   go_ret
   exact ⟨⟨_, rfl, ⟨fun h => absurd h (by decide), fun h => absurd h HA.out⟩, by omega, by omega⟩, rfl⟩
set_option maxHeartbeats 800000 in
theorem containsI_any (S : Nat → Prop) (a : Option Addr) (n c : Nat) (l : List Int) (t : Int) (w : World) (h : Ir w S (.slice a n c) l) :
  Calls Tryz.prog 116 #[.slice a n c, .int .i64 t] w fun e w' => e = .returned (.bool (decide (t ∈ l))) ∧ w = w' := by
 have H0 := hid h
 clear h
 go_enter Tryz.func116, Tryz.ntmps116
 go_wp2_with fail
 refine (indexI_any S a n c l t _ H0.out).mono ?_
 rintro e w1 ⟨⟨x, rfl, hx, h0, h1⟩, rfl⟩
 have HX : Hid (decide (0 ≤ x) = decide (t ∈ l)) := by show _ = _; rw [decide_eq_decide]; exact hx
 clear hx
 go_wp2
 go_ret
 exact ⟨by rw [← HX.out]; rfl, rfl⟩
set_option maxHeartbeats 2000000 in
theorem has_any (S : Nat → Prop) (a : Option Addr) (n c : Nat) (l : List Int) (t : Int) (w : World) (h : Ir w S (.slice a n c) l) :
  Calls Tryz.prog 64 #[.slice a n c, .int .i64 t] w fun e w' => e = .returned (.bool (decide (t ∈ l))) ∧ w = w' := by
 have HN := hid (Rw.len h).1
 have bk := (Rw.len h).2
 have H0 := hid h
 clear h
 go_enter Tryz.func64, Tryz.ntmps64
 go_wp2_with fail
 go_loopw [9] (fun i v => ∃ k : Nat, k ≤ n ∧ i = .int .i64 k ∧ v = w ∧ Hid (t ∉ l.take k)) (fun i _ => n - (intOf i).toNat)
 case atStart => exact ⟨0, Nat.zero_le _, rfl, rfl, (by show _ ∉ _; simp)⟩
 case round =>
  obtain ⟨m, hm, rfl, rfl, HT⟩ := hrel
  by_cases hlt : m < n
  ·have hlt' : (m : Int) < (n : Int) := by omega
   have hml : m < l.length := by rw [← HN.out]; exact hlt
   obtain ⟨b, off, ha, -, -, hcell⟩ := H0.out.at (by omega)
   have hcm := hcell m hlt
   clear hcell
   subst ha
   have HC : Hid (l[m]'hml = iAt l m) := by show _ = _; simp [iAt, hml]
   have HTK : Hid (l.take (m + 1) = l.take m ++ [iAt l m]) := by show _ = _; rw [List.take_succ_eq_append_getElem hml, HC.out]
   have HMM : Hid (iAt l m ∈ l) := by rw [← HC.out]; exact List.getElem_mem hml
   clear hml HC
   generalize iAt l m = cur at *
   by_cases he : cur = t
   ·subst he
    have HA : Hid (decide (cur ∈ l) = true) := decide_eq_true HMM.out
    go_wp2
    go_ret
    exact ⟨by rw [HA.out]; rfl, rfl⟩
   ·have he' : (cur == t) = false := by simp [he]
    have HT2 : Hid (t ∉ l.take (m + 1)) := by
     show _ ∉ _
     rw [HTK.out]
     simp [Ne.symm he]
     exact HT.out
    go_wp2
    go_roundw
    case rel => exact ⟨m + 1, by omega, by go_num, by trivial, HT2.out⟩
    case measure => simp [intOf]; omega
  ·have HA : Hid (decide (t ∈ l) = false) := by
    have := HT.out
    rw [List.take_of_length_le (by rw [← HN.out]; omega)] at this
    exact decide_eq_false this
   go_wp2
   go_ret
   exact ⟨by rw [HA.out]; rfl, rfl⟩
open Go.RowKit
set_option linter.unusedVariables false
def NdP (w : World) (kv : Value) (p : PG) (e : Ending) (w' : World) : Prop := ∃ (a1 : Option Addr) (n1 c1 : Nat) (a2 : Option Addr) (n2 c2 : Nat) (a3 : Option Addr) (n3 c3 : Nat), e = .returned (.agg #[.slice a1 n1 c1, .slice a2 n2 c2, .slice a3 n3 c3]) ∧ OwN w' (.slice a1 n1 c1, .slice a2 n2 c2, .slice a3 n3 c3) (nodeP p) ∧ ap3 (.slice a1 n1 c1, .slice a2 n2 c2, .slice a3 n3 c3) ∧ (∀ y, bl (.slice a1 n1 c1, .slice a2 n2 c2, .slice a3 n3 c3) y → kv.ownBlock = some y ∨ w.heap.size ≤ y) ∧ Below w.heap.size w w'
theorem load_nodN {w : World} {g : Nat} {x y z : Value} (c0 : w.cell? ⟨g, 0, none⟩ = some x) (c1 : w.cell? ⟨g, 1, none⟩ = some y) (c2 : w.cell? ⟨g, 2, none⟩ = some z) :
  (loadVar 85 ⟨g, 0, none⟩).run Tryz.prog w = .ok (.agg #[x, y, z]) w := by go_simp
theorem results_nodN {fn : Func} {p : Tmp} (h : fn.results = #[.cell p 85]) (tmps : Array Value) (w : World) (g : Nat) {x y z : Value} (hp : tmps.getD p undef = .pointer (some ⟨g, 0, none⟩))
  (c0 : w.cell? ⟨g, 0, none⟩ = some x) (c1 : w.cell? ⟨g, 1, none⟩ = some y) (c2 : w.cell? ⟨g, 2, none⟩ = some z) : (results fn tmps).run Tryz.prog w = .ok (.agg #[x, y, z]) w := by
 have hp' : tmps[p]?.getD undef = .pointer (some ⟨g, 0, none⟩) := by simpa using hp
 simp [results, h, hp', asAddr, load_nodN c0 c1 c2]
structure NL (w v : World) (ka : Option Addr) (kn kc : Nat) (va : Option Addr) (vn vc : Nat) (ia : Option Addr) (jn ic : Nat) (pa : Option Addr) (pn pc : Nat) (l : List PB) : Prop where
 bel : Below w.heap.size w v
 k0 : Bk v w.heap.size 107 [.slice ka kn kc, .slice va vn vc, .slice ia jn ic]
 k1 : Bk v (w.heap.size + 1) 85 [.slice none 0 0, .slice none 0 0, .slice none 0 0]
 k2 : Bk v (w.heap.size + 1 + 1) 85 [.slice pa pn pc, .slice none 0 0, .slice none 0 0]
 own : v.ownsRow (w.heap.size + 3) 112 2 (.slice pa pn pc) l.length (pcs l)
theorem NL.below {w v v' : World} {ka : Option Addr} {kn kc : Nat} {va : Option Addr} {vn vc : Nat} {ia : Option Addr} {jn ic : Nat} {pa : Option Addr} {pn pc : Nat} {l : List PB} (h : NL w v ka kn kc va vn vc ia jn ic pa pn pc l) (hb : Below v.heap.size v v') : NL w v' ka kn kc va vn vc ia jn ic pa pn pc l :=
 ⟨bt7 h.bel hb, h.k0.below hb, h.k1.below hb, h.k2.below hb, own_kept h.own (only_of_below hb (fun _ => False)) (fun _ _ h => h)⟩
theorem NL.push {w v v5 : World} {ka : Option Addr} {kn kc : Nat} {va : Option Addr} {vn vc : Nat} {ia : Option Addr} {jn ic : Nat} {pa : Option Addr} {pn pc : Nat} {l : List PB} (h : NL w v ka kn kc va vn vc ia jn ic pa pn pc l) (ks vs : ByteArray) {a5 : Option Addr} {n5 c5 : Nat} (ho : v5.ownsRow (w.heap.size + 3) 112 2 (.slice a5 n5 c5) (l.length + 1) (pcs l ++ [.string ks, .string vs])) (hg : v.grownBy v5 (Value.slice pa pn pc).ownBlock) :
  NL w (v5.setCell ⟨w.heap.size + 1 + 1, 0, none⟩ (.slice a5 n5 c5)) ka kn kc va vn vc ia jn ic a5 n5 c5 (l ++ [(ks, vs)]) := by
 have o : Only (fun y => (Value.slice pa pn pc).ownBlock = some y) v v5 := only_of_grown hg (fun k e => e)
 have hlt : ∀ y, (Value.slice pa pn pc).ownBlock = some y → w.heap.size + 3 ≤ y := fun y e => (World.ownsRow.lt h.own y e).1
 have o2 : Only (fun y => y = w.heap.size + 1 + 1) v5 (v5.setCell ⟨w.heap.size + 1 + 1, 0, none⟩ (.slice a5 n5 c5)) := only_set (R := fun y => y = w.heap.size + 1 + 1) rfl _
 refine ⟨(h.bel.trans (o.below h.bel.size (fun y hy e => by have := hlt y e; omega))).setCell (p := ⟨w.heap.size + 1 + 1, 0, none⟩) (by show w.heap.size ≤ w.heap.size + 1 + 1; omega) _, (h.k0.to o (fun e => by have := hlt _ e; omega)).setOther (by omega) _ _, (h.k1.to o (fun e => by have := hlt _ e; omega)).setOther (by omega) _ _, (h.k2.to o (fun e => by have := hlt _ e; omega)).set 0 _, ?_⟩
 rw [List.length_append, pcs_append]
 exact own_kept ho o2 (fun y e e2 => by have := (World.ownsRow.lt ho y e).1; omega)
theorem NL.start (w : World) (ka : Option Addr) (kn kc : Nat) (va : Option Addr) (vn vc : Nat) (ia : Option Addr) (jn ic : Nat) : NL w (((w.alloc (.cells #[.slice ka kn kc, .slice va vn vc, .slice ia jn ic] 107)).alloc (.cells #[.slice none 0 0, .slice none 0 0, .slice none 0 0] 85)).alloc (.cells #[.slice none 0 0, .slice none 0 0, .slice none 0 0] 85)) ka kn kc va vn vc ia jn ic none 0 0 [] := by
 refine ⟨below_new (below_new (below_new (Below.refl _ _))), ((Bk.new w 107 [.slice ka kn kc, .slice va vn vc, .slice ia jn ic]).alloc _).alloc _, ?_, ?_, World.ownsRow_nil _ _ _ _⟩
 ·have := (Bk.new (w.alloc (.cells #[.slice ka kn kc, .slice va vn vc, .slice ia jn ic] 107)) 85 [.slice none 0 0, .slice none 0 0, .slice none 0 0]).alloc (.cells #[.slice none 0 0, .slice none 0 0, .slice none 0 0] 85)
  simpa using this
 ·have := Bk.new ((w.alloc (.cells #[.slice ka kn kc, .slice va vn vc, .slice ia jn ic] 107)).alloc (.cells #[.slice none 0 0, .slice none 0 0, .slice none 0 0] 85)) 85 [.slice none 0 0, .slice none 0 0, .slice none 0 0]
  simpa using this
theorem NL.fin {w v : World} {ka : Option Addr} {kn kc : Nat} {va : Option Addr} {vn vc : Nat} {ia : Option Addr} {jn ic : Nat} {pa : Option Addr} {pn pc : Nat} {l : List PB} {p : PG} {kv : Value} (h : NL w v ka kn kc va vn vc ia jn ic pa pn pc l) (hp : nodeP p = ⟨l, [], []⟩) (x y z : Value) :
  NdP w kv p (.returned (.agg #[.slice pa pn pc, .slice none 0 0, .slice none 0 0])) (((v.setCell ⟨w.heap.size + 1, 0, none⟩ x).setCell ⟨w.heap.size + 1, 1, none⟩ y).setCell ⟨w.heap.size + 1, 2, none⟩ z) := by
 have o : Only (fun y => y = w.heap.size + 1) v (((v.setCell ⟨w.heap.size + 1, 0, none⟩ x).setCell ⟨w.heap.size + 1, 1, none⟩ y).setCell ⟨w.heap.size + 1, 2, none⟩ z) := ((only_set (R := fun y => y = w.heap.size + 1) rfl _).trans (only_set (R := fun y => y = w.heap.size + 1) rfl _)).trans (only_set (R := fun y => y = w.heap.size + 1) rfl _)
 have hlt : ∀ y, (Value.slice pa pn pc).ownBlock = some y → w.heap.size + 3 ≤ y := fun y e => (World.ownsRow.lt h.own y e).1
 refine ⟨pa, pn, pc, none, 0, 0, none, 0, 0, rfl, ?_, ?_, ?_, ((h.bel.setCell (p := ⟨w.heap.size + 1, 0, none⟩) (Nat.le_succ _) _).setCell (p := ⟨w.heap.size + 1, 1, none⟩) (Nat.le_succ _) _).setCell (p := ⟨w.heap.size + 1, 2, none⟩) (Nat.le_succ _) _⟩
 ·rw [hp]
  exact ⟨ownD_base (own_kept h.own o (fun y e e2 => by have := hlt y e; omega)) (Nat.zero_le _), World.ownsRow_nil _ _ _ _, World.ownsRow_nil _ _ _ _⟩
 ·exact fun y => ⟨fun e => ⟨fun e2 => (by cases e2), fun e2 => (by cases e2)⟩, fun e => (by cases e)⟩
 ·rintro y (e | e | e)
  ·right; have := hlt y e; omega
  ·cases e
  ·cases e
set_option maxHeartbeats 8000000 in
set_option maxRecDepth 100000 in
theorem nodeOf_any (ka : Option Addr) (kn kc : Nat) (va : Option Addr) (vn vc : Nat) (ia : Option Addr) (jn ic : Nat) (p : PG) (w : World) (h : PO w (.slice ka kn kc) (.slice va vn vc) (.slice ia jn ic) p) (hok : pgOk p = true) :
  Calls Tryz.prog 118 #[.agg #[.slice ka kn kc, .slice va vn vc, .slice ia jn ic]] w fun e w' => NdP w (.slice ka kn kc) p e w' := by
 have hs := pgOk_shape hok
 have HK := own_at h.hk
 have HV := own_at h.hv
 have HI := own_at h.hi
 have HP := hid h
 have HNK := hid HK.1
 have HNV := hid HV.1
 have hkc := HK.2.1
 have hkc' := HK.2.2.1
 have hvc := HV.2.1
 have hvc' := HV.2.2.1
 have hic := HI.2.1
 have hic' := HI.2.2.1
 by_cases hj : jn = 0
 ·have HND : Hid (nodeP p = ⟨pairsP p, [], []⟩) := by show _ = _; rw [nodeP, if_pos (by omega)]
  have HVK : Hid (vn = kn) := by show _ = _; have := hs.1 (by omega); omega
  have hk4 : kn ≤ 4 := by omega
  subst hj
  have N0 := hid (NL.start w ka kn kc va vn vc ia 0 ic)
  clear h hs HK HV HI hok
  go_enter Tryz.func118, Tryz.ntmps118
  go_wp2_with fail
  generalize ((w.alloc (.cells #[.slice ka kn kc, .slice va vn vc, .slice ia 0 ic] 107)).alloc (.cells #[.slice none 0 0, .slice none 0 0, .slice none 0 0] 85)).alloc (.cells #[.slice none 0 0, .slice none 0 0, .slice none 0 0] 85) = W at *
  go_loopw [16] (fun i wr => ∃ (k : Nat) (pa : Option Addr) (pn pc : Nat), k ≤ kn ∧ i = .int .i64 k ∧ Hid (NL w wr ka kn kc va vn vc ia 0 ic pa pn pc ((pairsP p).take k))) (fun i _ => kn - (intOf i).toNat)
  case atStart => exact ⟨0, none, 0, 0, Nat.zero_le _, rfl, N0.out⟩
  case round =>
   clear N0
   obtain ⟨k, pa, pn, pc, hk, rfl, NN⟩ := hrel
   by_cases hlt : k < kn
   ·have hlt' : (k : Int) < (kn : Int) := by omega
    have hltv : k < vn := by have := HVK.out; omega
    have hltv' : (k : Int) < (vn : Int) := by omega
    have PR := (HP.out.below NN.out.bel).pgr (S := fun _ => True) (fun _ _ => trivial)
    obtain ⟨kb, ko, rfl, -, -, hck⟩ := PR.hk.at (by omega)
    obtain ⟨vb, vo, rfl, -, hvb, hcv⟩ := PR.hv.at (by omega)
    have q0 := hck k hlt
    have q1 := hcv k hltv
    have HKL : Hid (k < p.keys.length) := by rw [← HNK.out]; exact hlt
    have HTK := hid (pairsP_take p HKL.out)
    have HKV : Hid (∃ ks vs, sAt p.keys k = ks ∧ sAt p.vals k = vs) := ⟨_, _, rfl, rfl⟩
    obtain ⟨ks, vs, hks, hvs⟩ := HKV.out
    rw [hks, hvs] at HTK
    rw [hks] at q0
    rw [hvs] at q1
    have HPL : Hid (((pairsP p).take k).length = k) := by show _ = _; rw [List.length_take, pairsP_len]; have := HKL.out; omega
    have hk6 : k ≤ 1048576 := by omega
    have HVW : Hid (vb < w.heap.size) := by
     have := HP.out.hv
     exact (World.ownsRow.lt this vb rfl).2
    have HW2 : Hid (Below wr.heap.size wr ((wr.alloc (.cells #[.string ks, .string vs] 112)).drew)) := bt7 (below_new (Below.refl _ _)) (below_drew _)
    have N2 := hid (NN.out.below HW2.out)
    have HNE : Hid ((Value.slice pa pn pc).ownBlock ≠ some (w.heap.size + 1 + 1)) := fun e => by have := (World.ownsRow.lt NN.out.own _ e).1; omega
    have H2 : Hid (World.ownsRow ((wr.alloc (.cells #[.string ks, .string vs] 112)).drew) (w.heap.size + 3) 112 2 (.slice pa pn pc) k (pcs ((pairsP p).take k))) := by have := N2.out.own; rw [HPL.out] at this; exact this
    have KN : Hid (Bk ((wr.alloc (.cells #[.string ks, .string vs] 112)).drew) wr.heap.size 112 [.string ks, .string vs]) := (Bk.new wr 112 [.string ks, .string vs]).below (below_drew _)
    have HBS : Hid (w.heap.size + 3 ≤ ((wr.alloc (.cells #[.string ks, .string vs] 112)).drew).heap.size) := by have h1 := N2.out.k2.lt; show _ ≤ _; omega
    have C2 : Hid (((wr.alloc (.cells #[.string ks, .string vs] 112)).drew).cell? ⟨w.heap.size + 1 + 1, 0, none⟩ = some (.slice pa pn pc) ∧ ((wr.alloc (.cells #[.string ks, .string vs] 112)).drew).frozen? ⟨w.heap.size + 1 + 1, 0, none⟩ = false) := ⟨N2.out.k2.cell (j := 0) rfl, N2.out.k2.free 0⟩
    have HPU : Hid (∀ a5 n5 c5 (w5 : World), w5.ownsRow (w.heap.size + 3) 112 2 (.slice a5 n5 c5) (k + 1) (pcs ((pairsP p).take k) ++ [.string ks, .string vs]) → World.grownBy ((wr.alloc (.cells #[.string ks, .string vs] 112)).drew) w5 (Value.slice pa pn pc).ownBlock → NL w (w5.setCell ⟨w.heap.size + 1 + 1, 0, none⟩ (.slice a5 n5 c5)) (some ⟨kb, ko, none⟩) kn kc (some ⟨vb, vo, none⟩) vn vc ia 0 ic a5 n5 c5 ((pairsP p).take (k + 1))) := by
     intro a5 n5 c5 w5 h1 h2
     rw [HTK.out]
     exact N2.out.push ks vs (by rw [HPL.out]; exact h1) h2
    have HSX : Hid (∀ v, Only (fun y => (Value.slice pa pn pc).ownBlock = some y ∨ y = w.heap.size + 1 + 1) wr v → v.cell? ⟨w.heap.size, 1, none⟩ = some (.slice (some ⟨vb, vo, none⟩) vn vc) ∧ v.cell? ⟨vb, vo + k, none⟩ = some (.string vs)) := by
     intro v ov
     have hown := NN.out.own
     refine ⟨(NN.out.k0.to ov (fun e => ?_)).cell (j := 1) rfl, ?_⟩
     ·rcases e with e | e
      ·have := (World.ownsRow.lt hown _ e).1; omega
      ·omega
     ·have hbk := ov.block vb hvb (fun e => by
       have := HVW.out
       rcases e with e | e
       ·have := (World.ownsRow.lt hown _ e).1; omega
       ·omega)
      exact (World.cell?_of_block (w := wr) (a := ⟨vb, vo + k, none⟩) hbk).trans q1
    have HS0 := hid (HSX.out wr.drew (only_of_below (below_drew _) _))
    have S2 := hid (HSX.out _ (only_of_below HW2.out _))
    have c1 := NN.out.k2.cell (j := 0) rfl
    have c2 := C2.out.1
    clear hks hvs hck hcv PR
    go_wp2_with fail
    refine wp_region_noPanic ?_
    refine wp_region_held_drew (S := (fun v => v.cell? ⟨w.heap.size, 1, none⟩ = some (.slice (some ⟨vb, vo, none⟩) vn vc) ∧ v.cell? ⟨vb, vo + k, none⟩ = some (.string vs))) (by kernel_rfl) HS0.out (fun hHeld => ?_)
    simp only [List.size_toArray, List.length_cons, List.length_nil, Array.replicate_succ, Array.replicate_zero, Nat.reduceAdd, List.push_toArray, List.nil_append, List.cons_append]
    refine wpAnyH_take (i := 0) (v := (.pointer (some ⟨w.heap.size + 1 + 1, 0, none⟩))) rfl (by kernel_rfl) (by kernel_rfl) (by kernel_rfl) (fun _ _ _ h => h) (Or.inl ⟨by rfl, ?_⟩) (by assumption) ?_
    ·intro w hSw
     (try dsimp only at hSw)
     go_simp
    try simp only [List.getElem_toArray]
    try simp only [List.getElem_cons_succ]
    try simp only [List.getElem_cons_zero]
    try simp only [Act.put]
    try simp only [List.setIfInBounds_toArray]
    try simp only [List.set_cons_succ]
    try simp only [List.set_cons_zero]
    refine wpAnyH_take (i := 2) (v := (.string ks)) rfl (by kernel_rfl) (by kernel_rfl) (by kernel_rfl) (fun _ _ _ h => h) (Or.inl ⟨by rfl, ?_⟩) (by assumption) ?_
    ·intro w hSw
     (try dsimp only at hSw)
     go_simp
    try simp only [List.getElem_toArray]
    try simp only [List.getElem_cons_succ]
    try simp only [List.getElem_cons_zero]
    try simp only [Act.put]
    try simp only [List.setIfInBounds_toArray]
    try simp only [List.set_cons_succ]
    try simp only [List.set_cons_zero]
    refine wpAnyH_take (i := 3) (v := (.pointer (some ⟨w.heap.size, 1, none⟩))) rfl (by kernel_rfl) (by kernel_rfl) (by kernel_rfl) (fun _ _ _ h => h) (Or.inl ⟨by rfl, ?_⟩) (by assumption) ?_
    ·intro w hSw
     (try dsimp only at hSw)
     go_simp
    try simp only [List.getElem_toArray]
    try simp only [List.getElem_cons_succ]
    try simp only [List.getElem_cons_zero]
    try simp only [Act.put]
    try simp only [List.setIfInBounds_toArray]
    try simp only [List.set_cons_succ]
    try simp only [List.set_cons_zero]
    refine wpAnyH_take (i := 4) (v := (.slice (some ⟨vb, vo, none⟩) vn vc)) rfl (by kernel_rfl) (by kernel_rfl) (by kernel_rfl) (fun _ _ _ h => h) (Or.inl ⟨by rfl, ?_⟩) (by assumption) ?_
    ·intro w hSw
     (try dsimp only at hSw)
     go_simp
    try simp only [List.getElem_toArray]
    try simp only [List.getElem_cons_succ]
    try simp only [List.getElem_cons_zero]
    try simp only [Act.put]
    try simp only [List.setIfInBounds_toArray]
    try simp only [List.set_cons_succ]
    try simp only [List.set_cons_zero]
    refine wpAnyH_take (i := 5) (v := (.int .i64 (k : Int))) rfl (by kernel_rfl) (by kernel_rfl) (by kernel_rfl) (fun _ _ _ h => h) (Or.inl ⟨by rfl, ?_⟩) (by assumption) ?_
    ·intro w hSw
     (try dsimp only at hSw)
     go_simp
    try simp only [List.getElem_toArray]
    try simp only [List.getElem_cons_succ]
    try simp only [List.getElem_cons_zero]
    try simp only [Act.put]
    try simp only [List.setIfInBounds_toArray]
    try simp only [List.set_cons_succ]
    try simp only [List.set_cons_zero]
    refine wpAnyH_take (i := 6) (v := (.pointer (some ⟨vb, vo + k, none⟩))) rfl (by kernel_rfl) (by kernel_rfl) (by kernel_rfl) (fun _ _ _ h => h) (Or.inl ⟨by rfl, ?_⟩) (by assumption) ?_
    ·intro w hSw
     (try dsimp only at hSw)
     go_simp
    try simp only [List.getElem_toArray]
    try simp only [List.getElem_cons_succ]
    try simp only [List.getElem_cons_zero]
    try simp only [Act.put]
    try simp only [List.setIfInBounds_toArray]
    try simp only [List.set_cons_succ]
    try simp only [List.set_cons_zero]
    refine wpAnyH_take (i := 7) (v := (.string vs)) rfl (by kernel_rfl) (by kernel_rfl) (by kernel_rfl) (fun _ _ _ h => h) (Or.inl ⟨by rfl, ?_⟩) (by assumption) ?_
    ·intro w hSw
     (try dsimp only at hSw)
     go_simp
    try simp only [List.getElem_toArray]
    try simp only [List.getElem_cons_succ]
    try simp only [List.getElem_cons_zero]
    try simp only [Act.put]
    try simp only [List.setIfInBounds_toArray]
    try simp only [List.set_cons_succ]
    try simp only [List.set_cons_zero]
    refine wpAnyH_take (i := 8) (v := (.agg #[.string ks, .string vs])) rfl (by kernel_rfl) (by kernel_rfl) (by kernel_rfl) (fun _ _ _ h => h) (Or.inl ⟨by rfl, ?_⟩) (by assumption) ?_
    ·intro w hSw
     (try dsimp only at hSw)
     go_simp
    try simp only [List.getElem_toArray]
    try simp only [List.getElem_cons_succ]
    try simp only [List.getElem_cons_zero]
    try simp only [Act.put]
    try simp only [List.setIfInBounds_toArray]
    try simp only [List.set_cons_succ]
    try simp only [List.set_cons_zero]
    refine wpAnyH_ready (rs := [1, 9]) (by kernel_rfl) (by simp) ?_
    refine AllReadyH.cons rfl (fun K1 hK => ?_) (AllReadyH.cons rfl (fun K1 hK => ?_) AllReadyH.nil)
    ·go_simp
     refine hK.out _ _ ?_ (fun hHeld => ?_)
     ·assumption
     clear hK K1
     try simp only [List.getElem_toArray]
     try simp only [List.getElem_cons_succ]
     try simp only [List.getElem_cons_zero]
     try simp only [Act.put]
     try simp only [List.setIfInBounds_toArray]
     try simp only [List.set_cons_succ]
     try simp only [List.set_cons_zero]
     refine wpAnyH_ready (rs := [9]) (by kernel_rfl) (by simp) ?_
     refine AllReadyH.cons rfl (fun K1 hK => ?_) AllReadyH.nil
     go_simp
     refine hK.out _ _ ?_ (fun hHeld => ?_)
     ·exact S2.out
     clear hK K1
     try simp only [List.getElem_toArray]
     try simp only [List.getElem_cons_succ]
     try simp only [List.getElem_cons_zero]
     try simp only [Act.put]
     try simp only [List.setIfInBounds_toArray]
     try simp only [List.set_cons_succ]
     try simp only [List.set_cons_zero]
     refine wpAnyH_ready (rs := [10]) (by kernel_rfl) (by simp) ?_
     refine AllReadyH.cons rfl (fun K1 hK => ?_) AllReadyH.nil
     refine step_append_g rfl _ _ _ rfl (w.heap.size + 3) 112 (.agg #[.string ⟨#[]⟩, .string ⟨#[]⟩]) 2 32 Tryz.underlying82 infoPairI rfl (by decide) (by decide) (.slice pa pn pc) k (pcs ((pairsP p).take k)) rfl H2.out wr.heap.size [.string ks, .string vs] rfl (rw_two KN.out) rfl (by intro y hy; simp at hy; rcases hy with rfl | rfl <;> rfl) hk6 HBS.out (w.heap.size + 1 + 1) 0 (.slice pa pn pc) C2.out.1 C2.out.2 HNE.out ?_
     intro a5 n5 c5 w5 hO5 hg5 ha5 hc5 hf5
     have P5 := hid (HPU.out a5 n5 c5 w5 hO5 hg5)
     have o5 : Only (fun y => (Value.slice pa pn pc).ownBlock = some y ∨ y = w.heap.size + 1 + 1) (wr.alloc (.cells #[.string ks, .string vs] 112)).drew w5 := only_of_grown hg5 (fun k e => .inl e)
     have S5 := HSX.out _ ((only_of_below HW2.out _).trans o5)
     have S6 := HSX.out (w5.setCell ⟨w.heap.size + 1 + 1, 0, none⟩ (.slice a5 n5 c5)) (((only_of_below HW2.out _).trans o5).trans (only_set (R := fun y => (Value.slice pa pn pc).ownBlock = some y ∨ y = w.heap.size + 1 + 1) (.inr rfl) _))
     refine hK.out _ _ ?_ (fun hHeld => ?_)
     ·exact S5
     clear hK K1
     try simp only [List.getElem_toArray]
     try simp only [List.getElem_cons_succ]
     try simp only [List.getElem_cons_zero]
     try simp only [Act.put]
     try simp only [List.setIfInBounds_toArray]
     try simp only [List.set_cons_succ]
     try simp only [List.set_cons_zero]
     refine wpAnyH_take (i := 11) (v := (.pointer (some ⟨w.heap.size + 1 + 1, 0, none⟩))) rfl (by kernel_rfl) (by kernel_rfl) (by kernel_rfl) (fun _ _ _ h => h) (Or.inl ⟨by rfl, ?_⟩) (by assumption) ?_
     ·intro w hSw
      (try dsimp only at hSw)
      go_simp
     try simp only [List.getElem_toArray]
     try simp only [List.getElem_cons_succ]
     try simp only [List.getElem_cons_zero]
     try simp only [Act.put]
     try simp only [List.setIfInBounds_toArray]
     try simp only [List.set_cons_succ]
     try simp only [List.set_cons_zero]
     refine wpAnyH_ready (rs := [12]) (by kernel_rfl) (by simp) ?_
     refine AllReadyH.cons rfl (fun K1 hK => ?_) AllReadyH.nil
     go_simp
     refine hK.out _ _ ?_ (fun hHeld => ?_)
     ·exact S6
     clear hK K1
     try simp only [List.getElem_toArray]
     try simp only [List.getElem_cons_succ]
     try simp only [List.getElem_cons_zero]
     try simp only [Act.put]
     try simp only [List.setIfInBounds_toArray]
     try simp only [List.set_cons_succ]
     try simp only [List.set_cons_zero]
     refine wpAnyH_done (by kernel_rfl) ?_ _
     refine NoPanic.normal ?_
     clear NN N2 H2 KN HBS C2 HPU HSX HS0 S2 c1 c2 q0 q1 S5 S6 o5 hO5 hg5 ha5 hc5 hf5 hHeld
     go_wp2
     go_roundw
     case rel => exact ⟨k + 1, a5, n5, c5, by omega, by go_num, P5.out⟩
     case measure => simp [intOf]; omega
    ·go_simp
     refine hK.out _ _ ?_ (fun hHeld => ?_)
     ·exact S2.out
     clear hK K1
     try simp only [List.getElem_toArray]
     try simp only [List.getElem_cons_succ]
     try simp only [List.getElem_cons_zero]
     try simp only [Act.put]
     try simp only [List.setIfInBounds_toArray]
     try simp only [List.set_cons_succ]
     try simp only [List.set_cons_zero]
     refine wpAnyH_ready (rs := [1]) (by kernel_rfl) (by simp) ?_
     refine AllReadyH.cons rfl (fun K1 hK => ?_) AllReadyH.nil
     go_simp
     refine hK.out _ _ ?_ (fun hHeld => ?_)
     ·assumption
     clear hK K1
     try simp only [List.getElem_toArray]
     try simp only [List.getElem_cons_succ]
     try simp only [List.getElem_cons_zero]
     try simp only [Act.put]
     try simp only [List.setIfInBounds_toArray]
     try simp only [List.set_cons_succ]
     try simp only [List.set_cons_zero]
     refine wpAnyH_ready (rs := [10]) (by kernel_rfl) (by simp) ?_
     refine AllReadyH.cons rfl (fun K1 hK => ?_) AllReadyH.nil
     refine step_append_g rfl _ _ _ rfl (w.heap.size + 3) 112 (.agg #[.string ⟨#[]⟩, .string ⟨#[]⟩]) 2 32 Tryz.underlying82 infoPairI rfl (by decide) (by decide) (.slice pa pn pc) k (pcs ((pairsP p).take k)) rfl H2.out wr.heap.size [.string ks, .string vs] rfl (rw_two KN.out) rfl (by intro y hy; simp at hy; rcases hy with rfl | rfl <;> rfl) hk6 HBS.out (w.heap.size + 1 + 1) 0 (.slice pa pn pc) C2.out.1 C2.out.2 HNE.out ?_
     intro a5 n5 c5 w5 hO5 hg5 ha5 hc5 hf5
     have P5 := hid (HPU.out a5 n5 c5 w5 hO5 hg5)
     have o5 : Only (fun y => (Value.slice pa pn pc).ownBlock = some y ∨ y = w.heap.size + 1 + 1) (wr.alloc (.cells #[.string ks, .string vs] 112)).drew w5 := only_of_grown hg5 (fun k e => .inl e)
     have S5 := HSX.out _ ((only_of_below HW2.out _).trans o5)
     have S6 := HSX.out (w5.setCell ⟨w.heap.size + 1 + 1, 0, none⟩ (.slice a5 n5 c5)) (((only_of_below HW2.out _).trans o5).trans (only_set (R := fun y => (Value.slice pa pn pc).ownBlock = some y ∨ y = w.heap.size + 1 + 1) (.inr rfl) _))
     refine hK.out _ _ ?_ (fun hHeld => ?_)
     ·exact S5
     clear hK K1
     try simp only [List.getElem_toArray]
     try simp only [List.getElem_cons_succ]
     try simp only [List.getElem_cons_zero]
     try simp only [Act.put]
     try simp only [List.setIfInBounds_toArray]
     try simp only [List.set_cons_succ]
     try simp only [List.set_cons_zero]
     refine wpAnyH_take (i := 11) (v := (.pointer (some ⟨w.heap.size + 1 + 1, 0, none⟩))) rfl (by kernel_rfl) (by kernel_rfl) (by kernel_rfl) (fun _ _ _ h => h) (Or.inl ⟨by rfl, ?_⟩) (by assumption) ?_
     ·intro w hSw
      (try dsimp only at hSw)
      go_simp
     try simp only [List.getElem_toArray]
     try simp only [List.getElem_cons_succ]
     try simp only [List.getElem_cons_zero]
     try simp only [Act.put]
     try simp only [List.setIfInBounds_toArray]
     try simp only [List.set_cons_succ]
     try simp only [List.set_cons_zero]
     refine wpAnyH_ready (rs := [12]) (by kernel_rfl) (by simp) ?_
     refine AllReadyH.cons rfl (fun K1 hK => ?_) AllReadyH.nil
     go_simp
     refine hK.out _ _ ?_ (fun hHeld => ?_)
     ·exact S6
     clear hK K1
     try simp only [List.getElem_toArray]
     try simp only [List.getElem_cons_succ]
     try simp only [List.getElem_cons_zero]
     try simp only [Act.put]
     try simp only [List.setIfInBounds_toArray]
     try simp only [List.set_cons_succ]
     try simp only [List.set_cons_zero]
     refine wpAnyH_done (by kernel_rfl) ?_ _
     refine NoPanic.normal ?_
     clear NN N2 H2 KN HBS C2 HPU HSX HS0 S2 c1 c2 q0 q1 S5 S6 o5 hO5 hg5 ha5 hc5 hf5 hHeld
     go_wp2
     go_roundw
     case rel => exact ⟨k + 1, a5, n5, c5, by omega, by go_num, P5.out⟩
     case measure => simp [intOf]; omega
   ·have HAL : Hid ((pairsP p).take k = pairsP p) := by show _ = _; exact List.take_of_length_le (by rw [pairsP_len]; have := HNK.out; omega)
    rw [HAL.out] at NN
    have c0 := NN.out.k2.cell (j := 0) rfl
    have c1 := NN.out.k2.cell (j := 1) rfl
    have c2 := NN.out.k2.cell (j := 2) rfl
    have r0 := NN.out.k1.cell (j := 0) rfl
    have r1 := NN.out.k1.cell (j := 1) rfl
    have r2 := NN.out.k1.cell (j := 2) rfl
    have f0 := NN.out.k1.free 0
    have f1 := NN.out.k1.free 1
    have f2 := NN.out.k1.free 2
    go_wp2
    try simp only [Exit.inBlock, Exit.then]
    refine bodyPost_ret (v := .agg #[.slice pa pn pc, .slice none 0 0, .slice none 0 0]) ?_ rfl ?_
    ·exact results_nodN rfl _ _ _ rfl (by go_simp) (by go_simp) (by go_simp)
    ·exact NN.out.fin HND.out _ _ _
 ·have HND : Hid (nodeP p = ⟨[], p.keys, []⟩) := by show _ = _; rw [nodeP, if_neg (by omega)]
  have hj' : (0 : Int) < (jn : Int) := by omega
  have HB : Hid (Below w.heap.size w ((w.alloc (.cells #[.slice ka kn kc, .slice va vn vc, .slice ia jn ic] 107)).alloc (.cells #[.slice none 0 0, .slice ka kn kc, .slice none 0 0] 85))) := below_new (below_new (Below.refl _ _))
  have HO := hid (own_kept h.hk (only_of_below HB.out (fun _ => False)) (fun _ _ h => h))
  clear h hs HK HV HI hok
  go_enter Tryz.func118, Tryz.ntmps118
  go_wp2
  try simp only [Exit.inBlock, Exit.then]
  refine bodyPost_ret (v := .agg #[.slice none 0 0, .slice ka kn kc, .slice none 0 0]) ?_ rfl ?_
  ·exact results_nodN rfl _ _ _ rfl (by go_simp) (by go_simp) (by go_simp)
  ·refine ⟨none, 0, 0, ka, kn, kc, none, 0, 0, rfl, ?_, ?_, ?_, HB.out⟩
   ·rw [HND.out]
    exact ⟨World.ownsRow_nil _ _ _ _, HO.out, World.ownsRow_nil _ _ _ _⟩
   ·exact fun y => ⟨fun e => (by cases e), fun e e2 => (by cases e2)⟩
   ·rintro y (e | e | e)
    ·cases e
    ·exact .inl e
    ·cases e
open Go.RowKit Go.ChangeShapes
theorem laid_err {P : Program} {n nm : String} {d : DataW Unit} {r : List (String × DataW Unit)} {W : World} {g : Nat} {ti : TypeId} {ms : Array (String × TypeId)}
  (h : laidMet P ((n, .iface nm d) :: r) W) (hg : P.globalNamed n = some g) (ht : (P.globals[g]?).map (·.type) = some ti) (hi : P.underlying ti = some (.interface ms)) : Err W g := by
 obtain ⟨ps, ⟨g0, t0, cs0, f0, p0, q0, hg0, ht0, hv0, hd0, _, e0⟩, _, hrows⟩ := h
 obtain rfl := Option.some.inj (hg.symm.trans hg0)
 obtain rfl := Option.some.inj (ht.symm.trans ht0)
 obtain ⟨f1, u, v, hcs, hn, h1⟩ := iface_of_trod hi hd0
 have hc : cs0 = #[.iface u v] := by
  cases cs0
  simp_all
 subst hc
 exact ⟨u, v, by simpa using World.var?_cell hg0 hv0 0⟩
theorem Err.lt {w : World} {g : Nat} (h : Err w g) : g < w.heap.size := by
 obtain ⟨t, x, hc⟩ := h
 exact block_lt hc
open Go.RowKit
def Gave (e : Ending) : Prop := ∃ t x, e = .panicked [{ v := .iface t x, recovered := false }]
set_option maxHeartbeats 800000 in
theorem giveUp_any (R : Nat) (w : World) (he : Err w 2) : Calls Tryz.prog 165 #[.pointer (some ⟨R, 0, none⟩)] w fun e w' => Gave e ∧ w = w' := by
 obtain ⟨t, x, hx⟩ := he
 go_enter Tryz.func165, Tryz.ntmps165
 go_wp2
 exact ⟨rfl, ⟨t, x, rfl⟩, rfl⟩
set_option maxHeartbeats 800000 in
theorem goTo_no (R : Nat) (q : Int) (w : World) (he : Err w 2) (hq : q < 0) : Calls Tryz.prog 166 #[.pointer (some ⟨R, 0, none⟩), .int .i64 q] w fun e w' => Gave e ∧ w = w' := by
 have HE := hid he
 clear he
 go_enter Tryz.func166, Tryz.ntmps166
 go_wp2_with fail
 refine (giveUp_any R w HE.out).mono ?_
 rintro e w1 ⟨⟨t, x, rfl⟩, rfl⟩
 go_wp2
 exact ⟨rfl, ⟨t, x, rfl⟩, rfl⟩
set_option maxHeartbeats 800000 in
theorem goTo_yes (R : Nat) (q : Int) (w : World) {u : Value} {y : Int} (hb : Bk w R 191 [u, .int .i64 y]) (hq : 0 ≤ q) : Calls Tryz.prog 166 #[.pointer (some ⟨R, 0, none⟩), .int .i64 q] w fun e w' => e = .returned (.tuple #[]) ∧ w' = w.setCell ⟨R, 1, none⟩ (.int .i64 q) := by
 have c1 := hb.cell (j := 1) rfl
 have f1 := hb.free 1
 have hq' : ¬ q < 0 := by omega
 clear hb
 go_enter Tryz.func166, Tryz.ntmps166
 go_wp2
 go_end0
 exact ⟨rfl, rfl⟩
open Go.RowKit
structure Rs (v : World) (R : Nat) (a : Option Addr) (n c : Nat) (zs : List Int) (q : Int) : Prop where
 bk : Bk v R 191 [.slice a n c, .int .i64 q]
 rd : Rd v a n c zs
 lo : ∀ x, a = some x → 0 < n → x.block < R
 er : Err v 2
 eg : 2 < R
theorem Rs.to {v v' : World} {P : Nat → Prop} {R : Nat} {a : Option Addr} {n c : Nat} {zs : List Int} {q : Int} (h : Rs v R a n c zs q) (ho : Only P v v') (hP : ∀ y, P y → R < y) : Rs v' R a n c zs q := by
 have hlt := h.bk.lt
 have hb : Below (R + 1) v v' := ho.below (by omega) (fun b hb hr => by have := hP b hr; omega)
 exact ⟨h.bk.to ho (fun hr => by have := hP _ hr; omega), h.rd.below (hb.mono (Nat.le_succ R)) h.lo, h.lo, h.er.below hb (by have := h.eg; omega), h.eg⟩
theorem Rs.below {v v' : World} {R : Nat} {a : Option Addr} {n c : Nat} {zs : List Int} {q : Int} (h : Rs v R a n c zs q) (hb : Below v.heap.size v v') : Rs v' R a n c zs q :=
 h.to (P := fun _ => False) (only_of_below hb _) (fun _ h => h.elim)
theorem Rs.went {v v' : World} {R : Nat} {a : Option Addr} {n c : Nat} {zs : List Int} {q q' : Int} (h : Rs v R a n c zs q) (ho : Only (fun y => y = R) v v') (hk : Bk v' R 191 [.slice a n c, .int .i64 q']) : Rs v' R a n c zs q' := by
 have hlt := h.bk.lt
 have hb : Below R v v' := ho.below (by omega) (fun b hb hr => by omega)
 exact ⟨hk, h.rd.below hb h.lo, h.lo, h.er.below hb h.eg, h.eg⟩
def PtP (R : Nat) (a : Option Addr) (n c : Nat) (u : Value) (q : Int) (w : World) (e : Ending) (w' : World) : Prop :=
 Only (fun y => y = R) w w' ∧ w'.heap.size = w.heap.size ∧ ((q < 0 ∧ Gave e) ∨ (0 ≤ q ∧ e = .returned u ∧ Bk w' R 191 [.slice a n c, .int .i64 q]))
set_option maxHeartbeats 2000000 in
set_option maxRecDepth 20000 in
theorem rtext_any (R : Nat) (a : Option Addr) (n c : Nat) (zs : List Int) (q : Int) (w : World) (h : Rs w R a n c zs q) (hq : q ≤ 9223372036854775807) :
  Calls Tryz.prog 178 #[.pointer (some ⟨R, 0, none⟩)] w fun e w' => PtP R a n c (.string (strOf (gt zs q).1)) (gt zs q).2 w e w' := by
 have H0 := hid h
 have c0 := h.bk.cell (j := 0) rfl
 have c1 := h.bk.cell (j := 1) rfl
 have HC := hid (implGetText_any a n c zs q w.drew (h.rd.kept (below_drew _)) hq)
 clear h
 generalize strOf (gt zs q).1 = s at *
 generalize (gt zs q).2 = q' at *
 go_enter Tryz.func178, Tryz.ntmps178
 go_wp2_with fail
 go_cut [3, 4] (fun x y v => x = .string s ∧ y = .int .i64 q' ∧ v = w.drew)
 case first =>
  go_region_with (go_at_call 186; refine HC.out.mono ?_; rintro e w1 ⟨rfl, rfl⟩)
  all_goals (go_wp2_with fail; go_meet)
  all_goals exact ⟨rfl, rfl, rfl⟩
 case rest =>
  obtain ⟨rfl, rfl, rfl⟩ := hcut
  have H1 := hid (H0.out.below (below_drew w))
  have O1 : Hid (Only (fun y => y = R) w w.drew) := only_of_below (below_drew w) _
  have Z1 : Hid (w.drew.heap.size = w.heap.size) := rfl
  clear HC c0 c1 H0
  generalize w.drew = v at *
  by_cases hn : q' < 0
  ·go_wp2_with fail
   refine (goTo_no R q' v H1.out.er hn).mono ?_
   rintro e w1 ⟨⟨t, x, rfl⟩, rfl⟩
   go_wp2
   exact ⟨rfl, O1.out, Z1.out, .inl ⟨hn, t, x, rfl⟩⟩
  ·go_wp2_with fail
   refine (goTo_yes R q' v H1.out.bk (by omega)).mono ?_
   rintro e w1 ⟨rfl, hw1⟩
   have O2 : Hid (Only (fun y => y = R) w w1) := by rw [hw1]; exact O1.out.trans (only_set (R := fun y => y = R) rfl _)
   have K2 : Hid (Bk w1 R 191 [.slice a n c, .int .i64 q']) := by rw [hw1]; exact H1.out.bk.set 1 _
   have Z2 : Hid (w1.heap.size = w.heap.size) := by rw [hw1, ← Z1.out]; show _ = _; simp [World.setCell]
   clear hw1
   go_wp2
   go_ret
   exact ⟨O2.out, Z2.out, .inr ⟨by omega, rfl, K2.out⟩⟩
set_option maxHeartbeats 2000000 in
set_option maxRecDepth 20000 in
theorem rnum_any (R : Nat) (a : Option Addr) (n c : Nat) (zs : List Int) (q : Int) (w : World) (h : Rs w R a n c zs q) (hq : q ≤ 9223372036854775807) :
  Calls Tryz.prog 179 #[.pointer (some ⟨R, 0, none⟩)] w fun e w' => PtP R a n c (.int .i64 (gv zs q).1) (gv zs q).2 w e w' := by
 have H0 := hid h
 have c0 := h.bk.cell (j := 0) rfl
 have c1 := h.bk.cell (j := 1) rfl
 have HC := hid (implGetVar_any a n c zs q w.drew (h.rd.kept (below_drew _)) hq)
 clear h
 generalize (gv zs q).1 = s at *
 generalize (gv zs q).2 = q' at *
 go_enter Tryz.func179, Tryz.ntmps179
 go_wp2_with fail
 go_cut [3, 4] (fun x y v => x = .int .i64 s ∧ y = .int .i64 q' ∧ v = w.drew)
 case first =>
  go_region_with (go_at_call 187; refine HC.out.mono ?_; rintro e w1 ⟨rfl, rfl⟩)
  all_goals (go_wp2_with fail; go_meet)
  all_goals exact ⟨rfl, rfl, rfl⟩
 case rest =>
  obtain ⟨rfl, rfl, rfl⟩ := hcut
  have H1 := hid (H0.out.below (below_drew w))
  have O1 : Hid (Only (fun y => y = R) w w.drew) := only_of_below (below_drew w) _
  have Z1 : Hid (w.drew.heap.size = w.heap.size) := rfl
  clear HC c0 c1 H0
  generalize w.drew = v at *
  by_cases hn : q' < 0
  ·go_wp2_with fail
   refine (goTo_no R q' v H1.out.er hn).mono ?_
   rintro e w1 ⟨⟨t, x, rfl⟩, rfl⟩
   go_wp2
   exact ⟨rfl, O1.out, Z1.out, .inl ⟨hn, t, x, rfl⟩⟩
  ·go_wp2_with fail
   refine (goTo_yes R q' v H1.out.bk (by omega)).mono ?_
   rintro e w1 ⟨rfl, hw1⟩
   have O2 : Hid (Only (fun y => y = R) w w1) := by rw [hw1]; exact O1.out.trans (only_set (R := fun y => y = R) rfl _)
   have K2 : Hid (Bk w1 R 191 [.slice a n c, .int .i64 q']) := by rw [hw1]; exact H1.out.bk.set 1 _
   have Z2 : Hid (w1.heap.size = w.heap.size) := by rw [hw1, ← Z1.out]; show _ = _; simp [World.setCell]
   clear hw1
   go_wp2
   go_ret
   exact ⟨O2.out, Z2.out, .inr ⟨by omega, rfl, K2.out⟩⟩
def CtP (R : Nat) (a : Option Addr) (n c : Nat) (m : Int) (o : Int × Int) (w : World) (e : Ending) (w' : World) : Prop :=
 Only (fun y => y = R) w w' ∧ w'.heap.size = w.heap.size ∧ (((o.2 < 0 ∨ m < o.1) ∧ Gave e) ∨ (0 ≤ o.2 ∧ o.1 ≤ m ∧ e = .returned (.int .i64 o.1) ∧ Bk w' R 191 [.slice a n c, .int .i64 o.2]))
set_option maxHeartbeats 2000000 in
theorem rcount_any (R : Nat) (a : Option Addr) (n c : Nat) (zs : List Int) (q m : Int) (w : World) (h : Rs w R a n c zs q) (hq : q ≤ 9223372036854775807) :
  Calls Tryz.prog 177 #[.pointer (some ⟨R, 0, none⟩), .int .i64 m] w fun e w' => CtP R a n c m (gv zs q) w e w' := by
 have H0 := hid h
 have HC := hid (rnum_any R a n c zs q w h hq)
 clear h
 generalize gv zs q = o at *
 obtain ⟨s, q'⟩ := o
 dsimp only at HC
 go_enter Tryz.func177, Tryz.ntmps177
 go_wp2_with fail
 refine HC.out.mono ?_
 rintro e w1 ⟨ho, hz, hcase⟩
 have O1 := hid ho
 have Z1 := hid hz
 clear ho hz HC
 rcases hcase with ⟨hn, t, x, rfl⟩ | ⟨hn, rfl, hk⟩
 ·go_wp2
  exact ⟨rfl, O1.out, Z1.out, .inl ⟨.inl hn, t, x, rfl⟩⟩
 ·have K1 := hid hk
  have H1 := hid (H0.out.went O1.out hk)
  clear hk
  have HN := hid hn
  clear hn
  by_cases hm : m < s
  ·go_wp2_with fail
   refine (giveUp_any R w1 H1.out.er).mono ?_
   rintro e w2 ⟨⟨t, x, rfl⟩, rfl⟩
   go_wp2
   exact ⟨rfl, O1.out, Z1.out, .inl ⟨.inr hm, t, x, rfl⟩⟩
  ·go_wp2
   go_ret
   exact ⟨O1.out, Z1.out, .inr ⟨HN.out, by show s ≤ m; omega, rfl, K1.out⟩⟩
open Go.RowKit
theorem pg_of {p : PG} {zs : List Int} (h : pgBytes p = some zs) : pgOk p = true ∧ zs = pgFull p := by
 unfold pgBytes at h
 split at h
 ·rename_i hok
  exact ⟨hok, (Option.some.inj h).symm⟩
 ·cases h
theorem pg_head {p : PG} {zs : List Int} (h : pgBytes p = some zs) : ∃ R2, zs = pgHead p ++ R2 := by
 obtain ⟨hok, hz⟩ := pg_of h
 obtain ⟨R, hR⟩ := body_split p 0 p.keys.length
 rw [Nat.zero_add] at hR
 have hr : pgRaw p = pgHead p ++ R := hR
 refine ⟨R ++ List.replicate (512 - (pgRaw p).length) 0, ?_⟩
 rw [hz, pgFull]
 generalize List.replicate (512 - (pgRaw p).length) 0 = Z
 rw [hr, List.append_assoc]
theorem leaf_head {p : PG} {zs : List Int} (h : pgBytes p = some zs) (h0 : p.kids.length = 0) : zAt zs 0 = 76 ∧ gv zs 1 = ((p.keys.length : Int), ((pgBody p 0).length : Int)) := by
 obtain ⟨R2, hh⟩ := pg_head h
 have hn := (pgOk_facts (pg_of h).1).nk
 have hhd : pgHead p = [76] ++ enc (p.keys.length : Int) := by rw [pgHead, if_pos h0, if_pos h0]; simp
 refine ⟨by rw [hh, hhd]; rfl, ?_⟩
 have := gv_enc [76] R2 (p.keys.length : Int) (by omega) (by omega)
 rw [pgBody, hh, hhd]
 simpa [Int.add_comm] using this
theorem branch_head {p : PG} {zs : List Int} (h : pgBytes p = some zs) (h0 : ¬ p.kids.length = 0) : zAt zs 0 = 66 ∧ p.keys.length ≤ 3 ∧ p.vals = [] ∧ ∃ q : Int, 0 ≤ q ∧ gv zs 1 = ((p.keys.length : Int), q) ∧ gv zs q = (iAt p.kids 0, ((pgBody p 0).length : Int)) := by
 obtain ⟨R2, hh⟩ := pg_head h
 have hok := (pg_of h).1
 have hF := pgOk_facts hok
 have hn := hF.nk
 have hbr := hF.br h0
 have hk0 := hbr.2 0 (by omega)
 have h1 := hok
 simp only [pgOk, Bool.and_eq_true] at h1
 have h2 := h1.2
 rw [if_neg h0] at h2
 simp only [pgBranch, Bool.and_eq_true, decide_eq_true_eq] at h2
 have hv0 : p.vals = [] := List.eq_nil_of_length_eq_zero h2.2.2
 have hhd : pgHead p = [66] ++ enc (p.keys.length : Int) ++ enc (iAt p.kids 0) := by rw [pgHead, if_neg h0, if_neg h0]
 refine ⟨by rw [hh, hhd]; rfl, by omega, hv0, (([66] ++ enc (p.keys.length : Int)).length : Int), by omega, ?_, ?_⟩
 ·have := gv_enc [66] (enc (iAt p.kids 0) ++ R2) (p.keys.length : Int) (by omega) (by omega)
  rw [hh, hhd]
  simpa [Int.add_comm] using this
 ·have := gv_enc ([66] ++ enc (p.keys.length : Int)) R2 (iAt p.kids 0) (by omega) (by omega)
  rw [pgBody, hh, hhd, this]
  simp
  omega
theorem leaf_step {p : PG} {zs : List Int} (h : pgBytes p = some zs) (h0 : p.kids.length = 0) {j : Nat} (hj : j < p.keys.length) :
  ∃ q : Int, 0 ≤ q ∧ gt zs ((pgBody p j).length : Int) = (bytesOf (sAt p.keys j), q) ∧ gt zs q = (bytesOf (sAt p.vals j), ((pgBody p (j + 1)).length : Int)) := by
 obtain ⟨hok, hz⟩ := pg_of h
 have hF := pgOk_facts hok
 obtain ⟨hv, hvs⟩ := hF.lf h0
 have hk := hF.ks j hj
 have hvj := hvs j (by omega)
 obtain ⟨R, hR⟩ := body_split p (j + 1) (p.keys.length - (j + 1))
 rw [show j + 1 + (p.keys.length - (j + 1)) = p.keys.length by omega] at hR
 have hr : pgRaw p = pgBody p (j + 1) ++ R := hR
 obtain ⟨rest, hrest⟩ : ∃ rest, zs = pgRaw p ++ rest := ⟨_, hz⟩
 have e1 : zs = pgBody p j ++ (enc ((bytesOf (sAt p.keys j)).length : Int) ++ bytesOf (sAt p.keys j) ++ (enc ((bytesOf (sAt p.vals j)).length : Int) ++ bytesOf (sAt p.vals j))) ++ (R ++ rest) := by
  rw [hrest, hr, pgBody, pgPart, if_pos h0, bytesOf_len, bytesOf_len]
  simp only [List.append_assoc]
 refine ⟨((pgBody p j ++ enc ((bytesOf (sAt p.keys j)).length : Int) ++ bytesOf (sAt p.keys j)).length : Int), by omega, ?_, ?_⟩
 ·have := gt_rest (pgBody p j) (bytesOf (sAt p.keys j)) (enc ((bytesOf (sAt p.vals j)).length : Int) ++ bytesOf (sAt p.vals j) ++ (R ++ rest)) (by rw [bytesOf_len]; omega)
  rw [← this, e1]
  simp only [List.append_assoc]
 ·have := gt_rest (pgBody p j ++ enc ((bytesOf (sAt p.keys j)).length : Int) ++ bytesOf (sAt p.keys j)) (bytesOf (sAt p.vals j)) (R ++ rest) (by rw [bytesOf_len]; omega)
  have e2 : pgBody p (j + 1) = pgBody p j ++ enc ((bytesOf (sAt p.keys j)).length : Int) ++ bytesOf (sAt p.keys j) ++ enc ((bytesOf (sAt p.vals j)).length : Int) ++ bytesOf (sAt p.vals j) := by
   rw [pgBody, pgPart, if_pos h0, bytesOf_len, bytesOf_len]
   simp only [List.append_assoc]
  rw [e2, ← this, e1]
  simp only [List.append_assoc]
theorem branch_step {p : PG} {zs : List Int} (h : pgBytes p = some zs) (h0 : ¬ p.kids.length = 0) {j : Nat} (hj : j < p.keys.length) :
  ∃ q : Int, 0 ≤ q ∧ gt zs ((pgBody p j).length : Int) = (bytesOf (sAt p.keys j), q) ∧ gv zs q = (iAt p.kids (j + 1), ((pgBody p (j + 1)).length : Int)) := by
 obtain ⟨hok, hz⟩ := pg_of h
 have hF := pgOk_facts hok
 obtain ⟨hv, hvs⟩ := hF.br h0
 have hk := hF.ks j hj
 have hvj := hvs (j + 1) (by omega)
 obtain ⟨R, hR⟩ := body_split p (j + 1) (p.keys.length - (j + 1))
 rw [show j + 1 + (p.keys.length - (j + 1)) = p.keys.length by omega] at hR
 have hr : pgRaw p = pgBody p (j + 1) ++ R := hR
 obtain ⟨rest, hrest⟩ : ∃ rest, zs = pgRaw p ++ rest := ⟨_, hz⟩
 have e1 : zs = pgBody p j ++ (enc ((bytesOf (sAt p.keys j)).length : Int) ++ bytesOf (sAt p.keys j) ++ enc (iAt p.kids (j + 1))) ++ (R ++ rest) := by
  rw [hrest, hr, pgBody, pgPart, if_neg h0, bytesOf_len]
  simp only [List.append_assoc]
 refine ⟨((pgBody p j ++ enc ((bytesOf (sAt p.keys j)).length : Int) ++ bytesOf (sAt p.keys j)).length : Int), by omega, ?_, ?_⟩
 ·have := gt_rest (pgBody p j) (bytesOf (sAt p.keys j)) (enc (iAt p.kids (j + 1)) ++ (R ++ rest)) (by rw [bytesOf_len]; omega)
  rw [← this, e1]
  simp only [List.append_assoc]
 ·have := gv_enc (pgBody p j ++ enc ((bytesOf (sAt p.keys j)).length : Int) ++ bytesOf (sAt p.keys j)) (R ++ rest) (iAt p.kids (j + 1)) (by omega) (by omega)
  have e2 : pgBody p (j + 1) = pgBody p j ++ enc ((bytesOf (sAt p.keys j)).length : Int) ++ bytesOf (sAt p.keys j) ++ enc (iAt p.kids (j + 1)) := by
   rw [pgBody, pgPart, if_neg h0, bytesOf_len]
   simp only [List.append_assoc]
  have e3 : ((pgBody p j ++ enc ((bytesOf (sAt p.keys j)).length : Int) ++ bytesOf (sAt p.keys j)).length + (enc (iAt p.kids (j + 1))).length : Nat) = (pgBody p (j + 1)).length := by rw [e2]; exact List.length_append.symm
  rw [e3] at this
  rw [← this, e1]
  simp only [List.append_assoc]
open Go.RowKit
theorem stepS1 {w : World} {ops : Array Oper} {o : Oper} {a : Act} {K : Act → World → Prop} {Q : Exit → Act → World → Prop} {E : Prop} (hgd : o.guard = none) (s x : Operand)
  (ho : o.op = .call { callee := .builtin .append, args := #[s, x], argTypes := #[83, 83] }) (v : Value) (n : Nat) (xs : List Value) (hs : a.eval s = v) (hown : w.ownsRow 0 9 1 v n xs)
  (g : Nat) (z : ByteArray) (hx : a.eval x = .slice (some ⟨g, 0, none⟩) 1 1) (hB : w.cell? ⟨g, 0, none⟩ = some (.string z)) (hb : n ≤ 1048576) (b0 o0 : Nat) (x0 : Value) (hc0 : w.cell? ⟨b0, o0, none⟩ = some x0) (hf0 : w.frozen? ⟨b0, o0, none⟩ = false) (hne : v.ownBlock ≠ some b0)
  (h : ∀ a' n' c' w', w'.ownsRow 0 9 1 (.slice a' n' c') (n + 1) (xs ++ [.string z]) → w.grownBy w' v.ownBlock → ((Value.slice a' n' c').ownBlock = v.ownBlock ∨ (Value.slice a' n' c').ownBlock = some w.heap.size) → w'.cell? ⟨b0, o0, none⟩ = some x0 → w'.frozen? ⟨b0, o0, none⟩ = false → K (a.put o.dst (.slice a' n' c')) w') :
  if Region.wanted o (yielded ops a.tmps) = true then Oper.wp Tryz.prog o a w K Q else E := by
 have hw : Region.wanted o (yielded ops a.tmps) = true := by simp [Region.wanted, hgd]
 rw [if_pos hw]
 obtain ⟨i, hi, hz, hsz, hby⟩ := info_of infoStr'
 have hsrc : Rw w (fun _ => True) (.slice (some ⟨g, 0, none⟩) 1 1) 1 [.string z] := by
  refine ⟨_, 1, rfl, Nat.le_refl _, by omega, fun h => by omega, fun h => (by cases h), fun _ => ⟨g, 0, rfl, block_lt hB, trivial, fun j u hu => ?_⟩⟩
  cases j with
  | zero => simp at hu; subst hu; simpa using hB
  | succ j => simp at hu
 obtain ⟨v', w', hr, h2, h3, h5⟩ := run_append_row_at (P := Tryz.prog) (w := w) 0 83 o.type 9 i _ 1 16 Tryz.underlying83 hi hz hsz hby rfl (by decide) v n xs hown (fun _ => True) _ 1 [.string z] hsrc rfl (by intro u hu; simp at hu; subst hu; rfl) (by unfold maxLen; omega) (by omega) (Nat.zero_le _)
 obtain ⟨a', c', rfl⟩ := own_shape h2
 have hbl := h3.block b0 (block_lt hc0) (fun e => hne e.symm)
 unfold Oper.wp execOp
 simp only [ho, resolve, invoke, builtin, Sem.run_bind, Sem.run_pure, Result.andThen_ok, List.map_toArray, List.map_cons, List.map_nil, hs, hx, hr]
 exact h a' _ c' w' h2 h3 h5 ((World.cell?_of_block (w := w) (a := ⟨b0, o0, none⟩) hbl).trans hc0) ((World.frozen?_of_block (w := w) (a := ⟨b0, o0, none⟩) hbl).trans hf0)
theorem stepI1 {w : World} {ops : Array Oper} {o : Oper} {a : Act} {K : Act → World → Prop} {Q : Exit → Act → World → Prop} {E : Prop} (hgd : o.guard = none) (s x : Operand)
  (ho : o.op = .call { callee := .builtin .append, args := #[s, x], argTypes := #[34, 34] }) (v : Value) (n : Nat) (xs : List Value) (hs : a.eval s = v) (hown : w.ownsRow 0 3 1 v n xs)
  (g : Nat) (z : Int) (hx : a.eval x = .slice (some ⟨g, 0, none⟩) 1 1) (hB : w.cell? ⟨g, 0, none⟩ = some (.int .i64 z)) (hb : n ≤ 1048576) (b0 o0 : Nat) (x0 : Value) (hc0 : w.cell? ⟨b0, o0, none⟩ = some x0) (hf0 : w.frozen? ⟨b0, o0, none⟩ = false) (hne : v.ownBlock ≠ some b0)
  (h : ∀ a' n' c' w', w'.ownsRow 0 3 1 (.slice a' n' c') (n + 1) (xs ++ [.int .i64 z]) → w.grownBy w' v.ownBlock → ((Value.slice a' n' c').ownBlock = v.ownBlock ∨ (Value.slice a' n' c').ownBlock = some w.heap.size) → w'.cell? ⟨b0, o0, none⟩ = some x0 → w'.frozen? ⟨b0, o0, none⟩ = false → K (a.put o.dst (.slice a' n' c')) w') :
  if Region.wanted o (yielded ops a.tmps) = true then Oper.wp Tryz.prog o a w K Q else E := by
 have hw : Region.wanted o (yielded ops a.tmps) = true := by simp [Region.wanted, hgd]
 rw [if_pos hw]
 obtain ⟨i, hi, hz, hsz, hby⟩ := info_of infoInt'
 have hsrc : Rw w (fun _ => True) (.slice (some ⟨g, 0, none⟩) 1 1) 1 [.int .i64 z] := by
  refine ⟨_, 1, rfl, Nat.le_refl _, by omega, fun h => by omega, fun h => (by cases h), fun _ => ⟨g, 0, rfl, block_lt hB, trivial, fun j u hu => ?_⟩⟩
  cases j with
  | zero => simp at hu; subst hu; simpa using hB
  | succ j => simp at hu
 obtain ⟨v', w', hr, h2, h3, h5⟩ := run_append_row_at (P := Tryz.prog) (w := w) 0 34 o.type 3 i _ 1 8 Tryz.underlying34 hi hz hsz hby rfl (by decide) v n xs hown (fun _ => True) _ 1 [.int .i64 z] hsrc rfl (by intro u hu; simp at hu; subst hu; rfl) (by unfold maxLen; omega) (by omega) (Nat.zero_le _)
 obtain ⟨a', c', rfl⟩ := own_shape h2
 have hbl := h3.block b0 (block_lt hc0) (fun e => hne e.symm)
 unfold Oper.wp execOp
 simp only [ho, resolve, invoke, builtin, Sem.run_bind, Sem.run_pure, Result.andThen_ok, List.map_toArray, List.map_cons, List.map_nil, hs, hx, hr]
 exact h a' _ c' w' h2 h3 h5 ((World.cell?_of_block (w := w) (a := ⟨b0, o0, none⟩) hbl).trans hc0) ((World.frozen?_of_block (w := w) (a := ⟨b0, o0, none⟩) hbl).trans hf0)
open Go.RowKit
def cutW (v : World) (B : Nat) : World := { v with heap := v.heap.extract 0 B }
theorem cutW_size {v : World} {B : Nat} (h : B ≤ v.heap.size) : (cutW v B).heap.size = B := by
 simp [cutW]
 omega
theorem cutW_below {v : World} {B : Nat} (h : B ≤ v.heap.size) : Below B (cutW v B) v := by
 refine ⟨rfl, rfl, rfl, by rw [cutW_size h]; exact h, fun i hi => ?_⟩
 show v.heap[i]? = (v.heap.extract 0 B)[i]?
 rw [Array.getElem?_extract]
 simp
 omega
def Pr2 (B : Nat) (v : World) (kv vv iv : Value) (p : PG) : Prop := ∃ u : World, u.heap.size = B ∧ Pr1 u v kv vv iv p
theorem Pr2.to {B : Nat} {v v' : World} {kv vv iv : Value} {p : PG} {P : Nat → Prop} (h : Pr2 B v kv vv iv p) (ho : Only P v v') (hP : ∀ y, P y → y < B) : Pr2 B v' kv vv iv p := by
 obtain ⟨u, rfl, h⟩ := h
 have hB : u.heap.size ≤ v'.heap.size := Nat.le_trans h.be.size ho.size
 refine ⟨cutW v' u.heap.size, cutW_size hB, ?_⟩
 have hs := cutW_size hB
 have hb := cutW_below hB
 refine ⟨by rw [hs]; exact hb, ?_, ?_, ?_, ?_, ?_, ?_, h.ap⟩
 ·rw [hs]; exact h.rb.to ho (fun hr => by have := hP _ hr; omega)
 ·rw [hs]; exact h.bk.to ho (fun hr => by have := hP _ hr; omega)
 ·exact own_kept h.hk ho (fun k e hr => by have := hP _ hr; have := h.lo k (.inl e); omega)
 ·exact own_kept h.hv ho (fun k e hr => by have := hP _ hr; have := h.lo k (.inr (.inl e)); omega)
 ·exact own_kept h.hi ho (fun k e hr => by have := hP _ hr; have := h.lo k (.inr (.inr e)); omega)
 ·rw [hs]; exact h.lo
theorem Pr2.below {B : Nat} {v v' : World} {kv vv iv : Value} {p : PG} (h : Pr2 B v kv vv iv p) (hb : Below v.heap.size v v') : Pr2 B v' kv vv iv p := by
 obtain ⟨u, rfl, h⟩ := h
 exact ⟨u, rfl, h.below hb⟩
theorem Pr2.start (w : World) : Pr2 w.heap.size ((w.alloc (.cells #[.slice none 0 0, .slice none 0 0, .slice none 0 0] 107)).alloc (.cells #[.slice none 0 0, .slice none 0 0, .slice none 0 0] 107)) (.slice none 0 0) (.slice none 0 0) (.slice none 0 0) ⟨[], [], []⟩ := by
 have ba : Below w.heap.size w ((w.alloc (.cells #[.slice none 0 0, .slice none 0 0, .slice none 0 0] 107)).alloc (.cells #[.slice none 0 0, .slice none 0 0, .slice none 0 0] 107)) := below_new (below_new (Below.refl _ _))
 have k1 := Bk.new (w.alloc (.cells #[.slice none 0 0, .slice none 0 0, .slice none 0 0] 107)) 107 [.slice none 0 0, .slice none 0 0, .slice none 0 0]
 exact ⟨w, rfl, ba, (Bk.new w 107 [.slice none 0 0, .slice none 0 0, .slice none 0 0]).alloc _, by simpa using k1, World.ownsRow_nil _ _ _ _, World.ownsRow_nil _ _ _ _, World.ownsRow_nil _ _ _ _, fun y hy => (by rcases hy with e | e | e <;> cases e), fun y => ⟨fun e => (by cases e), fun e => (by cases e)⟩⟩
structure Lf (w v : World) (R : Nat) (a : Option Addr) (n c : Nat) (zs : List Int) (q : Int) (kv vv iv : Value) (p : PG) : Prop where
 rs : Rs v R a n c zs q
 pr : Pr2 w.heap.size v kv vv iv p
 on : Only (fun y => y = R) w v
 lt : R < w.heap.size
theorem Lf.below {w v v' : World} {R : Nat} {a : Option Addr} {n c : Nat} {zs : List Int} {q : Int} {kv vv iv : Value} {p : PG} (h : Lf w v R a n c zs q kv vv iv p) (hb : Below v.heap.size v v') : Lf w v' R a n c zs q kv vv iv p :=
 ⟨h.rs.below hb, h.pr.below hb, h.on.trans (only_of_below hb _), h.lt⟩
theorem Lf.went {w v v' : World} {R : Nat} {a : Option Addr} {n c : Nat} {zs : List Int} {q q' : Int} {kv vv iv : Value} {p : PG} (h : Lf w v R a n c zs q kv vv iv p) (ho : Only (fun y => y = R) v v') (hk : Bk v' R 191 [.slice a n c, .int .i64 q']) : Lf w v' R a n c zs q' kv vv iv p :=
 ⟨h.rs.went ho hk, h.pr.to ho (fun y e => by have := h.lt; omega), h.on.trans ho, h.lt⟩
theorem Lf.cells {w v : World} {R : Nat} {a : Option Addr} {n c : Nat} {zs : List Int} {q : Int} {kv vv iv : Value} {p : PG} (h : Lf w v R a n c zs q kv vv iv p) :
  (v.cell? ⟨w.heap.size + 1, 0, none⟩ = some kv ∧ v.cell? ⟨w.heap.size + 1, 1, none⟩ = some vv ∧ v.cell? ⟨w.heap.size + 1, 2, none⟩ = some iv) ∧ (v.frozen? ⟨w.heap.size + 1, 0, none⟩ = false ∧ v.frozen? ⟨w.heap.size + 1, 1, none⟩ = false ∧ v.frozen? ⟨w.heap.size + 1, 2, none⟩ = false) := by
 obtain ⟨u, hu, k⟩ := h.pr
 rw [← hu]
 exact ⟨k.cells, k.bk.free 0, k.bk.free 1, k.bk.free 2⟩
theorem Lf.rcells {w v : World} {R : Nat} {a : Option Addr} {n c : Nat} {zs : List Int} {q : Int} {kv vv iv : Value} {p : PG} (h : Lf w v R a n c zs q kv vv iv p) :
  (v.cell? ⟨w.heap.size, 0, none⟩ = some (.slice none 0 0) ∧ v.cell? ⟨w.heap.size, 1, none⟩ = some (.slice none 0 0) ∧ v.cell? ⟨w.heap.size, 2, none⟩ = some (.slice none 0 0)) ∧ (v.frozen? ⟨w.heap.size, 0, none⟩ = false ∧ v.frozen? ⟨w.heap.size, 1, none⟩ = false ∧ v.frozen? ⟨w.heap.size, 2, none⟩ = false) := by
 obtain ⟨u, hu, k⟩ := h.pr
 rw [← hu]
 exact ⟨⟨k.rb.cell (j := 0) rfl, k.rb.cell (j := 1) rfl, k.rb.cell (j := 2) rfl⟩, k.rb.free 0, k.rb.free 1, k.rb.free 2⟩
theorem Lf.own {w v : World} {R : Nat} {a : Option Addr} {n c : Nat} {zs : List Int} {q : Int} {kv vv iv : Value} {p : PG} (h : Lf w v R a n c zs q kv vv iv p) :
  v.ownsRow 0 9 1 kv p.keys.length (p.keys.map Value.string) ∧ v.ownsRow 0 9 1 vv p.vals.length (p.vals.map Value.string) ∧ v.ownsRow 0 3 1 iv p.kids.length (p.kids.map (Value.int .i64)) ∧
  (∀ y, (kv.ownBlock = some y ∨ vv.ownBlock = some y ∨ iv.ownBlock = some y) → w.heap.size + 1 < y) := by
 obtain ⟨u, hu, k⟩ := h.pr
 rw [← hu]
 exact ⟨k.hk, k.hv, k.hi, k.lo⟩
theorem Lf.ne {w v : World} {R : Nat} {a : Option Addr} {n c : Nat} {zs : List Int} {q : Int} {kv vv iv : Value} {p : PG} (h : Lf w v R a n c zs q kv vv iv p) : kv.ownBlock ≠ some (w.heap.size + 1) ∧ vv.ownBlock ≠ some (w.heap.size + 1) ∧ iv.ownBlock ≠ some (w.heap.size + 1) :=
 ⟨fun e => by have := h.own.2.2.2 _ (.inl e); omega, fun e => by have := h.own.2.2.2 _ (.inr (.inl e)); omega, fun e => by have := h.own.2.2.2 _ (.inr (.inr e)); omega⟩
theorem Lf.grow {w v w' : World} {R : Nat} {a : Option Addr} {n c : Nat} {zs : List Int} {q : Int} {kv vv iv : Value} {p : PG} (h : Lf w v R a n c zs q kv vv iv p) {r : Value} (hr : ∀ y, r.ownBlock = some y → w.heap.size + 1 < y) (hg : v.grownBy w' r.ownBlock) (o : Nat) (x : Value) : Rs (w'.setCell ⟨w.heap.size + 1, o, none⟩ x) R a n c zs q ∧ Only (fun y => y = R) w (w'.setCell ⟨w.heap.size + 1, o, none⟩ x) := by
 have h1 : Only (fun y => w.heap.size < y) v w' := only_of_grown hg (fun k e => by have := hr k e; omega)
 have h2 : Only (fun y => w.heap.size < y) w' (w'.setCell ⟨w.heap.size + 1, o, none⟩ x) := only_set (R := fun y => w.heap.size < y) (Nat.lt_succ_self _) _
 have h3 := h1.trans h2
 exact ⟨h.rs.to h3 (fun y hy => by have := h.lt; omega), h.on.then h3 (fun i hi hr => by omega)⟩
theorem Lf.addK {w v w' : World} {R : Nat} {a : Option Addr} {n c : Nat} {zs : List Int} {q : Int} {kv vv iv nw : Value} {p : PG} {s : ByteArray} (h : Lf w v R a n c zs q kv vv iv p) (hO : w'.ownsRow 0 9 1 nw (p.keys.length + 1) (p.keys.map (Value.string) ++ [Value.string s])) (hg : v.grownBy w' kv.ownBlock) (ha : nw.ownBlock = kv.ownBlock ∨ nw.ownBlock = some v.heap.size) :
  Lf w (w'.setCell ⟨w.heap.size + 1, 0, none⟩ nw) R a n c zs q nw vv iv ⟨p.keys ++ [s], p.vals, p.kids⟩ := by
 have hl := h.own.2.2.2
 obtain ⟨h1, h2⟩ := h.grow (r := kv) (fun y e => hl y (.inl e)) hg 0 nw
 obtain ⟨u, hu, k⟩ := h.pr
 have k2 := (k.addK hO hg (ha.imp id (fun e => ⟨_, e, Nat.le_refl _⟩))).1
 rw [hu] at k2
 exact ⟨h1, ⟨u, hu, k2⟩, h2, h.lt⟩
theorem Lf.addV {w v w' : World} {R : Nat} {a : Option Addr} {n c : Nat} {zs : List Int} {q : Int} {kv vv iv nw : Value} {p : PG} {s : ByteArray} (h : Lf w v R a n c zs q kv vv iv p) (hO : w'.ownsRow 0 9 1 nw (p.vals.length + 1) (p.vals.map (Value.string) ++ [Value.string s])) (hg : v.grownBy w' vv.ownBlock) (ha : nw.ownBlock = vv.ownBlock ∨ nw.ownBlock = some v.heap.size) :
  Lf w (w'.setCell ⟨w.heap.size + 1, 1, none⟩ nw) R a n c zs q kv nw iv ⟨p.keys, p.vals ++ [s], p.kids⟩ := by
 have hl := h.own.2.2.2
 obtain ⟨h1, h2⟩ := h.grow (r := vv) (fun y e => hl y (.inr (.inl e))) hg 1 nw
 obtain ⟨u, hu, k⟩ := h.pr
 have k2 := (k.addV hO hg (ha.imp id (fun e => ⟨_, e, Nat.le_refl _⟩))).1
 rw [hu] at k2
 exact ⟨h1, ⟨u, hu, k2⟩, h2, h.lt⟩
theorem Lf.addI {w v w' : World} {R : Nat} {a : Option Addr} {n c : Nat} {zs : List Int} {q : Int} {kv vv iv nw : Value} {p : PG} {s : Int} (h : Lf w v R a n c zs q kv vv iv p) (hO : w'.ownsRow 0 3 1 nw (p.kids.length + 1) (p.kids.map (Value.int .i64) ++ [Value.int .i64 s])) (hg : v.grownBy w' iv.ownBlock) (ha : nw.ownBlock = iv.ownBlock ∨ nw.ownBlock = some v.heap.size) :
  Lf w (w'.setCell ⟨w.heap.size + 1, 2, none⟩ nw) R a n c zs q kv vv nw ⟨p.keys, p.vals, p.kids ++ [s]⟩ := by
 have hl := h.own.2.2.2
 obtain ⟨h1, h2⟩ := h.grow (r := iv) (fun y e => hl y (.inr (.inr e))) hg 2 nw
 obtain ⟨u, hu, k⟩ := h.pr
 have k2 := (k.addI hO hg (ha.imp id (fun e => ⟨_, e, Nat.le_refl _⟩))).1
 rw [hu] at k2
 exact ⟨h1, ⟨u, hu, k2⟩, h2, h.lt⟩
def LfP (zs : List Int) (K : PG → Prop) (R : Nat) (a : Option Addr) (n c : Nat) (w : World) (e : Ending) (w' : World) : Prop :=
 Only (fun y => y = R) w w' ∧ ((Gave e ∧ ∀ p0, pgBytes p0 = some zs → K p0 → False) ∨ ∃ (ka : Option Addr) (kn kc : Nat) (va : Option Addr) (vn vc : Nat) (ia : Option Addr) (jn ic : Nat) (p : PG), e = .returned (.agg #[.slice ka kn kc, .slice va vn vc, .slice ia jn ic]) ∧
  PO w' (.slice ka kn kc) (.slice va vn vc) (.slice ia jn ic) p ∧ (∀ y, pbl (.slice ka kn kc) (.slice va vn vc) (.slice ia jn ic) y → w.heap.size ≤ y) ∧ (∃ q, Rs w' R a n c zs q) ∧ ∀ p0, pgBytes p0 = some zs → K p0 → p = p0)
theorem Lf.po {w v : World} {R : Nat} {a : Option Addr} {n c : Nat} {zs : List Int} {q : Int} {kv vv iv : Value} {p : PG} (h : Lf w v R a n c zs q kv vv iv p) : PO v kv vv iv p ∧ ∀ y, pbl kv vv iv y → w.heap.size + 1 < y := by
 have hl := h.own.2.2.2
 obtain ⟨u, hu, k⟩ := h.pr
 exact ⟨⟨k.hk, k.hv, k.hi, k.ap⟩, hl⟩
theorem Lf.done {w v : World} {R : Nat} {a : Option Addr} {n c : Nat} {zs : List Int} {q : Int} {kv vv iv : Value} {p : PG} (h : Lf w v R a n c zs q kv vv iv p) (x y z : Value) {K : PG → Prop} (hp : ∀ p0, pgBytes p0 = some zs → K p0 → p = p0) :
  LfP zs K R a n c w (.returned (.agg #[kv, vv, iv])) (((v.setCell ⟨w.heap.size, 0, none⟩ x).setCell ⟨w.heap.size, 1, none⟩ y).setCell ⟨w.heap.size, 2, none⟩ z) := by
 have ho : Only (fun y => y = w.heap.size) v (((v.setCell ⟨w.heap.size, 0, none⟩ x).setCell ⟨w.heap.size, 1, none⟩ y).setCell ⟨w.heap.size, 2, none⟩ z) :=
  ((only_set (R := fun y => y = w.heap.size) rfl _).trans (only_set (R := fun y => y = w.heap.size) rfl _)).trans (only_set (R := fun y => y = w.heap.size) rfl _)
 obtain ⟨k1, k2⟩ := h.po
 obtain ⟨ka, kc, rfl⟩ := own_shape k1.hk
 obtain ⟨va, vc, rfl⟩ := own_shape k1.hv
 obtain ⟨ia, ic, rfl⟩ := own_shape k1.hi
 refine ⟨h.on.then ho (fun i hi e => by omega), .inr ⟨ka, _, kc, va, _, vc, ia, _, ic, p, rfl, k1.to ho (fun y hy e => by have := k2 y hy; omega), fun y hy => by have := k2 y hy; omega, ⟨q, h.rs.to ho (fun y e => by have := h.lt; omega)⟩, hp⟩⟩
open Go.RowKit
set_option maxHeartbeats 8000000 in
set_option maxRecDepth 20000 in
theorem rleaf_any (R : Nat) (a : Option Addr) (n c : Nat) (zs : List Int) (w : World) (h : Rs w R a n c zs 1) (hl : zs.length = 512) :
  Calls Tryz.prog 167 #[.pointer (some ⟨R, 0, none⟩)] w fun e w' => LfP zs (fun p0 => p0.kids.length = 0) R a n c w e w' := by
 have L0 : Hid (Lf w ((w.alloc (.cells #[.slice none 0 0, .slice none 0 0, .slice none 0 0] 107)).alloc (.cells #[.slice none 0 0, .slice none 0 0, .slice none 0 0] 107)) R a n c zs 1 (.slice none 0 0) (.slice none 0 0) (.slice none 0 0) ⟨[], [], []⟩) := by
  have hb : Below w.heap.size w ((w.alloc (.cells #[.slice none 0 0, .slice none 0 0, .slice none 0 0] 107)).alloc (.cells #[.slice none 0 0, .slice none 0 0, .slice none 0 0] 107)) := below_new (below_new (Below.refl _ _))
  exact ⟨h.below hb, Pr2.start w, only_of_below hb _, h.bk.lt⟩
 have HBY := hid h.rd.2.2.2.2.1
 have HZL := hid hl
 have HGR : Hid (∀ q : Int, -1 ≤ (gt zs q).2 ∧ (gt zs q).2 ≤ 512) := fun q => by have := gt_range zs HBY.out q; rw [HZL.out] at this; exact this
 have HGV := hid (gv_rng zs HBY.out 1)
 have HHD : Hid (∀ p0, pgBytes p0 = some zs → p0.kids.length = 0 → gv zs 1 = ((p0.keys.length : Int), ((pgBody p0 0).length : Int)) ∧ p0.keys.length ≤ 4) := fun p0 hp h0 => ⟨(leaf_head hp h0).2, (pgOk_facts (pg_of hp).1).nk⟩
 have HCT := hid (fun (w : World) (h : Rs w R a n c zs 1) => rcount_any R a n c zs 1 4 w h (by omega))
 rw [HZL.out] at HGV
 clear h hl HBY
 generalize gv zs 1 = o at *
 obtain ⟨N, q0⟩ := o
 dsimp only at HGV
 go_enter Tryz.func167, Tryz.ntmps167
 go_wp2_with fail
 refine (HCT.out _ L0.out.rs).mono ?_
 generalize (w.alloc (.cells #[.slice none 0 0, .slice none 0 0, .slice none 0 0] 107)).alloc (.cells #[.slice none 0 0, .slice none 0 0, .slice none 0 0] 107) = U at *
 rintro e w1 ⟨ho1, -, hcase⟩
 dsimp only at hcase
 rcases hcase with ⟨hn, t, x, rfl⟩ | ⟨hn, hm, rfl, hk1⟩
 ·have HON : Hid (Only (fun y => y = R) w w1) := L0.out.on.trans ho1
  have HNO : Hid (∀ p0, pgBytes p0 = some zs → p0.kids.length = 0 → False) := by
   intro p0 hp h0
   have := HHD.out p0 hp h0
   obtain ⟨e1, e2⟩ := Prod.mk.inj this.1
   omega
  clear hn ho1 HCT HHD
  go_wp2
  exact ⟨rfl, HON.out, .inl ⟨⟨t, x, rfl⟩, HNO.out⟩⟩
 ·have L1 := hid (L0.out.went ho1 hk1)
  have hN0 := HGV.out.2.2.1
  have hq0 := HGV.out.2.1
  obtain ⟨N, rfl⟩ := Int.eq_ofNat_of_zero_le hN0
  clear L0 ho1 hk1 HCT HGV hN0
  have HNN : Hid (∀ p0, pgBytes p0 = some zs → p0.kids.length = 0 → N = p0.keys.length ∧ q0 = ((pgBody p0 0).length : Int)) := by
   intro p0 hp h0
   obtain ⟨e1, e2⟩ := Prod.mk.inj (HHD.out p0 hp h0).1
   exact ⟨by omega, e2⟩
  clear HHD
  go_wp2_with fail
  go_loopw [6] (fun i wr => ∃ (j : Nat) (q : Int) (kv vv iv : Value) (p : PG), j ≤ N ∧ i = .int .i64 j ∧ 0 ≤ q ∧ q ≤ 512 ∧ p.keys.length = j ∧ p.vals.length = j ∧ Hid (Lf w wr R a n c zs q kv vv iv p) ∧ Hid (∀ p0, pgBytes p0 = some zs → p0.kids.length = 0 → q = ((pgBody p0 j).length : Int) ∧ p = ⟨p0.keys.take j, p0.vals.take j, []⟩)) (fun i _ => N - (intOf i).toNat)
  case atStart => exact ⟨0, q0, _, _, _, ⟨[], [], []⟩, Nat.zero_le _, rfl, hn, hq0, rfl, rfl, L1.out, fun p0 hp h0 => ⟨(HNN.out p0 hp h0).2, by simp⟩⟩
  case round =>
   obtain ⟨j, q, kv, vv, iv, p, hj, rfl, hq1, hq2, hkl, hvl, L2, HIN⟩ := hrel
   clear L1
   by_cases hlt : j < N
   ·have hlt' : (j : Int) < (N : Int) := by omega
    have HSTP : Hid (∀ p0, pgBytes p0 = some zs → p0.kids.length = 0 → ∃ q1 : Int, 0 ≤ q1 ∧ gt zs q = (bytesOf (sAt p0.keys j), q1) ∧ gt zs q1 = (bytesOf (sAt p0.vals j), ((pgBody p0 (j + 1)).length : Int)) ∧ j < p0.keys.length ∧ j < p0.vals.length) := by
     intro p0 hp h0
     have h1 := (HNN.out p0 hp h0).1
     obtain ⟨q1, g1, g2, g3⟩ := leaf_step hp h0 (show j < p0.keys.length by omega)
     rw [(HIN.out p0 hp h0).1]
     have := ((pgOk_facts (pg_of hp).1).lf h0).1
     exact ⟨q1, g1, g2, g3, by omega, by omega⟩
    have hr1 := HGR.out q
    have HT1 := hid (fun (u : World) (h : Rs u R a n c zs q) => rtext_any R a n c zs q u h (by omega))
    generalize gt zs q = o1 at *
    obtain ⟨b1, q1⟩ := o1
    dsimp only at HT1 hr1
    obtain ⟨⟨c0, c1, c2⟩, f0, f1, f2⟩ := L2.out.cells
    by_cases h1 : q1 < 0
    ·have HNO : Hid (∀ p0, pgBytes p0 = some zs → p0.kids.length = 0 → False) := by
      intro p0 hp h0
      obtain ⟨q1', g1, g2, -⟩ := HSTP.out p0 hp h0
      have := (Prod.mk.inj g2).2
      omega
     have RSD := hid (L2.out.rs.below (below_drew wr))
     have HON : Hid (Only (fun y => y = R) w wr.drew) := (L2.out.below (below_drew wr)).on
     go_wp2_with fail
     go_region_dies
     all_goals
      refine (HT1.out _ RSD.out).mono ?_
      rintro e w3 ⟨ho3, -, ⟨-, t, x, rfl⟩ | ⟨hno, -⟩⟩
      ·have HON3 := hid (HON.out.trans ho3)
       go_wp2
       exact ⟨rfl, HON3.out, .inl ⟨⟨t, x, rfl⟩, HNO.out⟩⟩
      ·omega
    ·have hq1' : 0 ≤ q1 := by omega
     have HTS : Hid (∀ u, Rs u R a n c zs q → Calls Tryz.prog 178 #[.pointer (some ⟨R, 0, none⟩)] u fun e w' => e = .returned (.string (strOf b1)) ∧ Only (fun y => y = R) u w' ∧ Bk w' R 191 [.slice a n c, .int .i64 q1]) := by
      intro u hu
      refine (HT1.out u hu).mono ?_
      rintro e w' ⟨ho, -, ⟨hno, -⟩ | ⟨-, he, hk⟩⟩
      ·omega
      ·exact ⟨he, ho, hk⟩
     clear HT1
     obtain ⟨s1, hs1⟩ : ∃ s1, strOf b1 = s1 := ⟨_, rfl⟩
     have HS1E := hid hs1
     rw [hs1] at HTS
     clear hs1
     have LD := hid (L2.out.below (below_drew wr))
     go_wp2_with fail
     go_cut [13] (fun x v => ∃ ka5 kn5 kc5, x = .slice ka5 kn5 kc5 ∧ Hid (Lf w v R a n c zs q1 (.slice ka5 kn5 kc5) vv iv ⟨p.keys ++ [s1], p.vals, p.kids⟩))
     case first =>
      go_region_law (first
       | (go_simp; go_at_call 178; refine (HTS.out _ LD.out.rs).mono ?_; rintro e w3 ⟨rfl, ho3, hk3⟩; have L3 := LD.out.went ho3 hk3; have t0 := L3.cells.1.1; have L4 := L3.below (below_new (o := .cells #[.string s1] 9) (Below.refl _ _)); have t4 := L4.cells.1.1)
       | (refine stepS1 rfl _ _ rfl kv _ _ rfl L4.own.1 w3.heap.size s1 rfl ((Bk.new w3 9 [.string s1]).cell (j := 0) rfl) (by omega) (w.heap.size + 1) 0 kv L4.cells.1.1 L4.cells.2.1 L4.ne.1 ?_; intro a5 n5 c5 w5 hO5 hg5 ha5 hc5 hf5))
      all_goals (go_wp2_with fail; go_meet)
      all_goals exact ⟨a5, n5, c5, rfl, L4.addK hO5 hg5 ha5⟩
     case rest =>
      obtain ⟨ka5, kn5, kc5, rfl, L5⟩ := hcut
      clear LD HTS c0 c1 c2 f0 f1 f2 L2
      have HP5 : Hid (∀ p0, pgBytes p0 = some zs → p0.kids.length = 0 → strOf b1 = sAt p0.keys j) := by
       intro p0 hp h0
       obtain ⟨q1', g1, g2, -⟩ := HSTP.out p0 hp h0
       rw [(Prod.mk.inj g2).1, strOf_bytesOf]
      have hr2 := HGR.out q1
      have HT2 := hid (fun (u : World) (h : Rs u R a n c zs q1) => rtext_any R a n c zs q1 u h (by omega))
      have HS2 : Hid (∀ p0, pgBytes p0 = some zs → p0.kids.length = 0 → gt zs q1 = (bytesOf (sAt p0.vals j), ((pgBody p0 (j + 1)).length : Int))) := by
       intro p0 hp h0
       obtain ⟨q1', g1, g2, g3, -⟩ := HSTP.out p0 hp h0
       rw [(Prod.mk.inj g2).2]
       exact g3
      have HJ2 : Hid (∀ p0, pgBytes p0 = some zs → p0.kids.length = 0 → j < p0.keys.length ∧ j < p0.vals.length) := by
       intro p0 hp h0
       obtain ⟨q1', -, -, -, g4, g5⟩ := HSTP.out p0 hp h0
       exact ⟨g4, g5⟩
      rw [HS1E.out] at HP5
      clear HSTP
      generalize gt zs q1 = o2 at *
      obtain ⟨b2, q2⟩ := o2
      dsimp only at HT2 hr2
      obtain ⟨⟨c0, c1, c2⟩, f0, f1, f2⟩ := L5.out.cells
      by_cases h2 : q2 < 0
      ·have HNO : Hid (∀ p0, pgBytes p0 = some zs → p0.kids.length = 0 → False) := by
        intro p0 hp h0
        have := (Prod.mk.inj (HS2.out p0 hp h0)).2
        omega
       have RSD := hid (L5.out.rs.below (below_drew _))
       have HON := hid (L5.out.below (below_drew _)).on
       go_wp2_with fail
       go_region_dies
       all_goals
        refine (HT2.out _ RSD.out).mono ?_
        rintro e w3 ⟨ho3, -, ⟨-, t, x, rfl⟩ | ⟨hno, -⟩⟩
        ·have HON3 := hid (HON.out.trans ho3)
         go_wp2
         exact ⟨rfl, HON3.out, .inl ⟨⟨t, x, rfl⟩, HNO.out⟩⟩
        ·omega
      ·have hq2' : 0 ≤ q2 := by omega
       have HTS : Hid (∀ u, Rs u R a n c zs q1 → Calls Tryz.prog 178 #[.pointer (some ⟨R, 0, none⟩)] u fun e w' => e = .returned (.string (strOf b2)) ∧ Only (fun y => y = R) u w' ∧ Bk w' R 191 [.slice a n c, .int .i64 q2]) := by
        intro u hu
        refine (HT2.out u hu).mono ?_
        rintro e w' ⟨ho, -, ⟨hno, -⟩ | ⟨-, he, hk⟩⟩
        ·omega
        ·exact ⟨he, ho, hk⟩
       have HP6 : Hid (∀ p0, pgBytes p0 = some zs → p0.kids.length = 0 → strOf b2 = sAt p0.vals j ∧ q2 = ((pgBody p0 (j + 1)).length : Int)) := by
        intro p0 hp h0
        have g := HS2.out p0 hp h0
        exact ⟨by rw [(Prod.mk.inj g).1, strOf_bytesOf], (Prod.mk.inj g).2⟩
       clear HT2 HS2
       generalize strOf b2 = s2 at *
       have LD := hid (L5.out.below (below_drew _))
       go_wp2_with fail
       have HIN2 : Hid (∀ p0, pgBytes p0 = some zs → p0.kids.length = 0 → q2 = ((pgBody p0 (j + 1)).length : Int) ∧ (⟨p.keys ++ [s1], p.vals ++ [s2], p.kids⟩ : PG) = ⟨p0.keys.take (j + 1), p0.vals.take (j + 1), []⟩) := by
        intro p0 hp h0
        obtain ⟨g1, g2⟩ := HP6.out p0 hp h0
        obtain ⟨j1, j2⟩ := HJ2.out p0 hp h0
        refine ⟨g2, ?_⟩
        rw [(HIN.out p0 hp h0).2, HP5.out p0 hp h0, g1]
        show (⟨p0.keys.take j ++ [sAt p0.keys j], p0.vals.take j ++ [sAt p0.vals j], []⟩ : PG) = _
        rw [sAt_take j1, sAt_take j2]
       clear HIN HP5 HP6 HJ2
       go_region_law (first
        | (go_simp; go_at_call 178; refine (HTS.out _ LD.out.rs).mono ?_; rintro e w3 ⟨rfl, ho3, hk3⟩; have L3 := LD.out.went ho3 hk3; have t0 := L3.cells.1.2.1; have L4 := L3.below (below_new (o := .cells #[.string s2] 9) (Below.refl _ _)); have t4 := L4.cells.1.2.1)
        | (refine stepS1 rfl _ _ rfl vv _ _ rfl L4.own.2.1 w3.heap.size s2 rfl ((Bk.new w3 9 [.string s2]).cell (j := 0) rfl) (by show p.vals.length ≤ _; omega) (w.heap.size + 1) 1 vv L4.cells.1.2.1 L4.cells.2.2.1 L4.ne.2.1 ?_; intro a5 n5 c5 w5 hO5 hg5 ha5 hc5 hf5))
       all_goals
        have L6 := hid (L4.addV hO5 hg5 ha5)
        clear L3 L4 LD HTS c0 c1 c2 f0 f1 f2 L5 t0 t4 hO5 hg5 ha5 ho3 hk3 hc5 hf5
        go_wp2
        go_roundw
        case rel => exact ⟨j + 1, q2, _, _, iv, _, by omega, by go_num, hq2', hr2.2, by show (p.keys ++ [s1]).length = _; simp [hkl], by show (p.vals ++ [s2]).length = _; simp [hvl], L6.out, HIN2.out⟩
        case measure => simp [intOf]; omega
   ·have hjN : j = N := by omega
    have HPE : Hid (∀ p0, pgBytes p0 = some zs → p0.kids.length = 0 → p = p0) := by
     intro p0 hp h0
     have h1 := (HNN.out p0 hp h0).1
     have h2 := ((pgOk_facts (pg_of hp).1).lf h0).1
     rw [(HIN.out p0 hp h0).2, hjN]
     exact PG.ext' (List.take_of_length_le (by omega)) (List.take_of_length_le (by omega)) (List.eq_nil_of_length_eq_zero h0).symm
    obtain ⟨ka, kc, rfl⟩ := own_shape L2.out.own.1
    obtain ⟨va, vc, rfl⟩ := own_shape L2.out.own.2.1
    obtain ⟨ia, ic, rfl⟩ := own_shape L2.out.own.2.2.1
    have HQ := hid (L2.out.done (.slice ka p.keys.length kc) (.slice va p.vals.length vc) (.slice ia p.kids.length ic) HPE.out)
    generalize p.keys.length = kn at *
    generalize p.vals.length = vn at *
    generalize p.kids.length = jn at *
    obtain ⟨⟨c0, c1, c2⟩, -⟩ := L2.out.cells
    obtain ⟨⟨r0, r1, r2⟩, f0, f1, f2⟩ := L2.out.rcells
    clear hjN HIN HNN L2 hkl hvl
    go_wp2
    refine bodyPost_ret (results_pg (x := .slice ka kn kc) (y := .slice va vn vc) (z := .slice ia jn ic) rfl _ _ _ rfl (by go_simp) (by go_simp) (by go_simp)) rfl ?_
    exact HQ.out
open Go.RowKit
set_option maxHeartbeats 8000000 in
set_option maxRecDepth 20000 in
theorem rbranch_any (R : Nat) (a : Option Addr) (n c : Nat) (zs : List Int) (w : World) (h : Rs w R a n c zs 1) (hl : zs.length = 512) :
  Calls Tryz.prog 168 #[.pointer (some ⟨R, 0, none⟩)] w fun e w' => LfP zs (fun p0 => ¬ p0.kids.length = 0) R a n c w e w' := by
 have L0 : Hid (Lf w ((w.alloc (.cells #[.slice none 0 0, .slice none 0 0, .slice none 0 0] 107)).alloc (.cells #[.slice none 0 0, .slice none 0 0, .slice none 0 0] 107)) R a n c zs 1 (.slice none 0 0) (.slice none 0 0) (.slice none 0 0) ⟨[], [], []⟩) := by
  have hb : Below w.heap.size w ((w.alloc (.cells #[.slice none 0 0, .slice none 0 0, .slice none 0 0] 107)).alloc (.cells #[.slice none 0 0, .slice none 0 0, .slice none 0 0] 107)) := below_new (below_new (Below.refl _ _))
  exact ⟨h.below hb, Pr2.start w, only_of_below hb _, h.bk.lt⟩
 have HBY := hid h.rd.2.2.2.2.1
 have HZL := hid hl
 have HGR : Hid (∀ q : Int, -1 ≤ (gt zs q).2 ∧ (gt zs q).2 ≤ 512) := fun q => by have := gt_range zs HBY.out q; rw [HZL.out] at this; exact this
 have HGW : Hid (∀ q : Int, -1 ≤ (gv zs q).2 ∧ (gv zs q).2 ≤ 512) := fun q => by have := gv_rng zs HBY.out q; rw [HZL.out] at this; exact ⟨this.1, this.2.1⟩
 have HGV := hid (gv_rng zs HBY.out 1)
 have HHD : Hid (∀ p0, pgBytes p0 = some zs → ¬ p0.kids.length = 0 → p0.keys.length ≤ 3 ∧ p0.vals = [] ∧ ∃ q : Int, 0 ≤ q ∧ gv zs 1 = ((p0.keys.length : Int), q) ∧ gv zs q = (iAt p0.kids 0, ((pgBody p0 0).length : Int))) := fun p0 hp h0 => (branch_head hp h0).2
 have HCT := hid (fun (w : World) (h : Rs w R a n c zs 1) => rcount_any R a n c zs 1 3 w h (by omega))
 rw [HZL.out] at HGV
 clear h hl HBY
 obtain ⟨o, hgo⟩ : ∃ o, gv zs 1 = o := ⟨_, rfl⟩
 rw [hgo] at HGV HCT
 have HHE : Hid (∀ p0, pgBytes p0 = some zs → ¬ p0.kids.length = 0 → p0.keys.length ≤ 3 ∧ p0.vals = [] ∧ ∃ q : Int, 0 ≤ q ∧ o = ((p0.keys.length : Int), q) ∧ gv zs q = (iAt p0.kids 0, ((pgBody p0 0).length : Int))) := by rw [← hgo]; exact HHD.out
 clear HHD hgo
 obtain ⟨N, q0⟩ := o
 dsimp only at HGV
 go_enter Tryz.func168, Tryz.ntmps168
 go_wp2_with fail
 refine (HCT.out _ L0.out.rs).mono ?_
 generalize (w.alloc (.cells #[.slice none 0 0, .slice none 0 0, .slice none 0 0] 107)).alloc (.cells #[.slice none 0 0, .slice none 0 0, .slice none 0 0] 107) = U at *
 rintro e w1 ⟨ho1, -, hcase⟩
 dsimp only at hcase
 rcases hcase with ⟨hn, t, x, rfl⟩ | ⟨hn, hm, rfl, hk1⟩
 ·have HON : Hid (Only (fun y => y = R) w w1) := L0.out.on.trans ho1
  have HNO : Hid (∀ p0, pgBytes p0 = some zs → ¬ p0.kids.length = 0 → False) := by
   intro p0 hp h0
   obtain ⟨e1, -, q, e2, e3, -⟩ := HHE.out p0 hp h0
   obtain ⟨e4, e5⟩ := Prod.mk.inj e3
   omega
  clear hn ho1 HCT HHE
  go_wp2
  exact ⟨rfl, HON.out, .inl ⟨⟨t, x, rfl⟩, HNO.out⟩⟩
 ·have L1 := hid (L0.out.went ho1 hk1)
  have hN0 := HGV.out.2.2.1
  have hq0 := HGV.out.2.1
  obtain ⟨N, rfl⟩ := Int.eq_ofNat_of_zero_le hN0
  clear L0 ho1 hk1 HCT HGV hN0
  have HNN : Hid (∀ p0, pgBytes p0 = some zs → ¬ p0.kids.length = 0 → N = p0.keys.length ∧ p0.vals = [] ∧ gv zs q0 = (iAt p0.kids 0, ((pgBody p0 0).length : Int))) := by
   intro p0 hp h0
   obtain ⟨-, e1, q, -, e2, e3⟩ := HHE.out p0 hp h0
   obtain ⟨e4, e5⟩ := Prod.mk.inj e2
   exact ⟨by omega, e1, by rw [e5]; exact e3⟩
  clear HHE
  have hr0 := HGW.out q0
  have HT0 := hid (fun (u : World) (h : Rs u R a n c zs q0) => rnum_any R a n c zs q0 u h (by omega))
  obtain ⟨o0, hgo⟩ : ∃ o, gv zs q0 = o := ⟨_, rfl⟩
  rw [hgo] at HT0 hr0
  have HN2 : Hid (∀ p0, pgBytes p0 = some zs → ¬ p0.kids.length = 0 → N = p0.keys.length ∧ p0.vals = [] ∧ o0 = (iAt p0.kids 0, ((pgBody p0 0).length : Int))) := by rw [← hgo]; exact HNN.out
  clear HNN hgo
  obtain ⟨kid0, q1⟩ := o0
  dsimp only at HT0 hr0
  obtain ⟨⟨c0, c1, c2⟩, f0, f1, f2⟩ := L1.out.cells
  by_cases h1 : q1 < 0
  ·have HNO : Hid (∀ p0, pgBytes p0 = some zs → ¬ p0.kids.length = 0 → False) := by
    intro p0 hp h0
    have := (Prod.mk.inj (HN2.out p0 hp h0).2.2).2
    omega
   have RSD := hid (L1.out.rs.below (below_drew _))
   have HON := hid (L1.out.below (below_drew _)).on
   go_wp2_with fail
   go_region_dies
   all_goals
    refine (HT0.out _ RSD.out).mono ?_
    rintro e w3 ⟨ho3, -, ⟨-, t, x, rfl⟩ | ⟨hno, -⟩⟩
    ·have HON3 := hid (HON.out.trans ho3)
     go_wp2
     exact ⟨rfl, HON3.out, .inl ⟨⟨t, x, rfl⟩, HNO.out⟩⟩
    ·omega
  ·have hq1' : 0 ≤ q1 := by omega
   have HTS : Hid (∀ u, Rs u R a n c zs q0 → Calls Tryz.prog 179 #[.pointer (some ⟨R, 0, none⟩)] u fun e w' => e = .returned (.int .i64 kid0) ∧ Only (fun y => y = R) u w' ∧ Bk w' R 191 [.slice a n c, .int .i64 q1]) := by
    intro u hu
    refine (HT0.out u hu).mono ?_
    rintro e w' ⟨ho, -, ⟨hno, -⟩ | ⟨-, he, hk⟩⟩
    ·omega
    ·exact ⟨he, ho, hk⟩
   clear HT0
   have LD := hid (L1.out.below (below_drew _))
   go_wp2_with fail
   go_cut [12] (fun x v => ∃ ia5 jn5 ic5, x = .slice ia5 jn5 ic5 ∧ Hid (Lf w v R a n c zs q1 (.slice none 0 0) (.slice none 0 0) (.slice ia5 jn5 ic5) ⟨[], [], [kid0]⟩))
   case first =>
    go_region_law (first
     | (go_simp; go_at_call 179; refine (HTS.out _ LD.out.rs).mono ?_; rintro e w3 ⟨rfl, ho3, hk3⟩; have L3 := LD.out.went ho3 hk3; have t0 := L3.cells.1.2.2; have L4 := L3.below (below_new (o := .cells #[.int .i64 kid0] 3) (Below.refl _ _)); have t4 := L4.cells.1.2.2)
     | (refine stepI1 rfl _ _ rfl (.slice none 0 0) _ _ rfl L4.own.2.2.1 w3.heap.size kid0 rfl ((Bk.new w3 3 [.int .i64 kid0]).cell (j := 0) rfl) (by simp) (w.heap.size + 1) 2 (.slice none 0 0) L4.cells.1.2.2 L4.cells.2.2.2 L4.ne.2.2 ?_; intro a5 n5 c5 w5 hO5 hg5 ha5 hc5 hf5))
    all_goals (go_wp2_with fail; go_meet)
    all_goals exact ⟨a5, n5, c5, rfl, L4.addI hO5 hg5 ha5⟩
   case rest =>
    obtain ⟨ia5, jn5, ic5, rfl, L2'⟩ := hcut
    clear LD HTS c0 c1 c2 f0 f1 f2 L1
    have HST : Hid (∀ p0, pgBytes p0 = some zs → ¬ p0.kids.length = 0 → q1 = ((pgBody p0 0).length : Int) ∧ (⟨[], [], [kid0]⟩ : PG) = ⟨p0.keys.take 0, [], p0.kids.take (0 + 1)⟩) := by
     intro p0 hp h0
     obtain ⟨e1, e2⟩ := Prod.mk.inj (HN2.out p0 hp h0).2.2
     refine ⟨e2, ?_⟩
     rw [← iAt_take (by omega), e1]
     rfl
    have HNL : Hid (∀ p0, pgBytes p0 = some zs → ¬ p0.kids.length = 0 → N = p0.keys.length ∧ p0.vals = []) := fun p0 hp h0 => ⟨(HN2.out p0 hp h0).1, (HN2.out p0 hp h0).2.1⟩
    clear HN2
    go_wp2_with fail
    go_loopw [15] (fun i wr => ∃ (j : Nat) (q : Int) (kv vv iv : Value) (p : PG), j ≤ N ∧ i = .int .i64 j ∧ 0 ≤ q ∧ q ≤ 512 ∧ p.keys.length = j ∧ p.kids.length = j + 1 ∧ Hid (Lf w wr R a n c zs q kv vv iv p) ∧ Hid (∀ p0, pgBytes p0 = some zs → ¬ p0.kids.length = 0 → q = ((pgBody p0 j).length : Int) ∧ p = ⟨p0.keys.take j, [], p0.kids.take (j + 1)⟩)) (fun i _ => N - (intOf i).toNat)
    case atStart => exact ⟨0, q1, _, _, _, ⟨[], [], [kid0]⟩, Nat.zero_le _, rfl, hq1', hr0.2, rfl, rfl, L2'.out, HST.out⟩
    case round =>
     obtain ⟨j, q, kv, vv, iv, p, hj, rfl, hqa, hqb, hkl, hil, L2, HIN⟩ := hrel
     clear L2' HST
     by_cases hlt : j < N
     ·have hlt' : (j : Int) < (N : Int) := by omega
      have HSTP : Hid (∀ p0, pgBytes p0 = some zs → ¬ p0.kids.length = 0 → ∃ q1 : Int, 0 ≤ q1 ∧ gt zs q = (bytesOf (sAt p0.keys j), q1) ∧ gv zs q1 = (iAt p0.kids (j + 1), ((pgBody p0 (j + 1)).length : Int)) ∧ j < p0.keys.length ∧ j + 1 < p0.kids.length) := by
       intro p0 hp h0
       have h1 := (HNL.out p0 hp h0).1
       obtain ⟨q1, g1, g2, g3⟩ := branch_step hp h0 (show j < p0.keys.length by omega)
       rw [(HIN.out p0 hp h0).1]
       have := ((pgOk_facts (pg_of hp).1).br h0).1
       exact ⟨q1, g1, g2, g3, by omega, by omega⟩
      have hr1 := HGR.out q
      have HT1 := hid (fun (u : World) (h : Rs u R a n c zs q) => rtext_any R a n c zs q u h (by omega))
      generalize gt zs q = o1 at *
      obtain ⟨b1, q2⟩ := o1
      dsimp only at HT1 hr1
      obtain ⟨⟨c0, c1, c2⟩, f0, f1, f2⟩ := L2.out.cells
      by_cases h2 : q2 < 0
      ·have HNO : Hid (∀ p0, pgBytes p0 = some zs → ¬ p0.kids.length = 0 → False) := by
        intro p0 hp h0
        obtain ⟨q1', g1, g2, -⟩ := HSTP.out p0 hp h0
        have := (Prod.mk.inj g2).2
        omega
       have RSD := hid (L2.out.rs.below (below_drew wr))
       have HON := hid (L2.out.below (below_drew wr)).on
       go_wp2_with fail
       go_region_dies
       all_goals
        refine (HT1.out _ RSD.out).mono ?_
        rintro e w3 ⟨ho3, -, ⟨-, t, x, rfl⟩ | ⟨hno, -⟩⟩
        ·have HON3 := hid (HON.out.trans ho3)
         go_wp2
         exact ⟨rfl, HON3.out, .inl ⟨⟨t, x, rfl⟩, HNO.out⟩⟩
        ·omega
      ·have hq2' : 0 ≤ q2 := by omega
       have HTS : Hid (∀ u, Rs u R a n c zs q → Calls Tryz.prog 178 #[.pointer (some ⟨R, 0, none⟩)] u fun e w' => e = .returned (.string (strOf b1)) ∧ Only (fun y => y = R) u w' ∧ Bk w' R 191 [.slice a n c, .int .i64 q2]) := by
        intro u hu
        refine (HT1.out u hu).mono ?_
        rintro e w' ⟨ho, -, ⟨hno, -⟩ | ⟨-, he, hk⟩⟩
        ·omega
        ·exact ⟨he, ho, hk⟩
       clear HT1
       obtain ⟨s1, hs1⟩ : ∃ s1, strOf b1 = s1 := ⟨_, rfl⟩
       have HS1E := hid hs1
       rw [hs1] at HTS
       clear hs1
       have LD := hid (L2.out.below (below_drew wr))
       go_wp2_with fail
       go_cut [22] (fun x v => ∃ ka5 kn5 kc5, x = .slice ka5 kn5 kc5 ∧ Hid (Lf w v R a n c zs q2 (.slice ka5 kn5 kc5) vv iv ⟨p.keys ++ [s1], p.vals, p.kids⟩))
       case first =>
        go_region_law (first
         | (go_simp; go_at_call 178; refine (HTS.out _ LD.out.rs).mono ?_; rintro e w3 ⟨rfl, ho3, hk3⟩; have L3 := LD.out.went ho3 hk3; have t0 := L3.cells.1.1; have L4 := L3.below (below_new (o := .cells #[.string s1] 9) (Below.refl _ _)); have t4 := L4.cells.1.1)
         | (refine stepS1 rfl _ _ rfl kv _ _ rfl L4.own.1 w3.heap.size s1 rfl ((Bk.new w3 9 [.string s1]).cell (j := 0) rfl) (by omega) (w.heap.size + 1) 0 kv L4.cells.1.1 L4.cells.2.1 L4.ne.1 ?_; intro a5 n5 c5 w5 hO5 hg5 ha5 hc5 hf5))
        all_goals (go_wp2_with fail; go_meet)
        all_goals exact ⟨a5, n5, c5, rfl, L4.addK hO5 hg5 ha5⟩
       case rest =>
        obtain ⟨ka5, kn5, kc5, rfl, L5⟩ := hcut
        clear LD HTS c0 c1 c2 f0 f1 f2 L2
        have HP5 : Hid (∀ p0, pgBytes p0 = some zs → ¬ p0.kids.length = 0 → strOf b1 = sAt p0.keys j) := by
         intro p0 hp h0
         obtain ⟨q1', g1, g2, -⟩ := HSTP.out p0 hp h0
         rw [(Prod.mk.inj g2).1, strOf_bytesOf]
        have hr2 := HGW.out q2
        have HT2 := hid (fun (u : World) (h : Rs u R a n c zs q2) => rnum_any R a n c zs q2 u h (by omega))
        have HS2 : Hid (∀ p0, pgBytes p0 = some zs → ¬ p0.kids.length = 0 → gv zs q2 = (iAt p0.kids (j + 1), ((pgBody p0 (j + 1)).length : Int))) := by
         intro p0 hp h0
         obtain ⟨q1', g1, g2, g3, -⟩ := HSTP.out p0 hp h0
         rw [(Prod.mk.inj g2).2]
         exact g3
        have HJ2 : Hid (∀ p0, pgBytes p0 = some zs → ¬ p0.kids.length = 0 → j < p0.keys.length ∧ j + 1 < p0.kids.length) := by
         intro p0 hp h0
         obtain ⟨q1', -, -, -, g4, g5⟩ := HSTP.out p0 hp h0
         exact ⟨g4, g5⟩
        rw [HS1E.out] at HP5
        clear HSTP
        generalize gv zs q2 = o2 at *
        obtain ⟨kid, q3⟩ := o2
        dsimp only at HT2 hr2
        obtain ⟨⟨c0, c1, c2⟩, f0, f1, f2⟩ := L5.out.cells
        by_cases h3 : q3 < 0
        ·have HNO : Hid (∀ p0, pgBytes p0 = some zs → ¬ p0.kids.length = 0 → False) := by
          intro p0 hp h0
          have := (Prod.mk.inj (HS2.out p0 hp h0)).2
          omega
         have RSD := hid (L5.out.rs.below (below_drew _))
         have HON := hid (L5.out.below (below_drew _)).on
         go_wp2_with fail
         go_region_dies
         all_goals
          refine (HT2.out _ RSD.out).mono ?_
          rintro e w3 ⟨ho3, -, ⟨-, t, x, rfl⟩ | ⟨hno, -⟩⟩
          ·have HON3 := hid (HON.out.trans ho3)
           go_wp2
           exact ⟨rfl, HON3.out, .inl ⟨⟨t, x, rfl⟩, HNO.out⟩⟩
          ·omega
        ·have hq3' : 0 ≤ q3 := by omega
         have HTS : Hid (∀ u, Rs u R a n c zs q2 → Calls Tryz.prog 179 #[.pointer (some ⟨R, 0, none⟩)] u fun e w' => e = .returned (.int .i64 kid) ∧ Only (fun y => y = R) u w' ∧ Bk w' R 191 [.slice a n c, .int .i64 q3]) := by
          intro u hu
          refine (HT2.out u hu).mono ?_
          rintro e w' ⟨ho, -, ⟨hno, -⟩ | ⟨-, he, hk⟩⟩
          ·omega
          ·exact ⟨he, ho, hk⟩
         have HIN2 : Hid (∀ p0, pgBytes p0 = some zs → ¬ p0.kids.length = 0 → q3 = ((pgBody p0 (j + 1)).length : Int) ∧ (⟨p.keys ++ [s1], p.vals, p.kids ++ [kid]⟩ : PG) = ⟨p0.keys.take (j + 1), [], p0.kids.take (j + 1 + 1)⟩) := by
          intro p0 hp h0
          obtain ⟨g1, g2⟩ := Prod.mk.inj (HS2.out p0 hp h0)
          obtain ⟨j1, j2⟩ := HJ2.out p0 hp h0
          refine ⟨g2, ?_⟩
          rw [(HIN.out p0 hp h0).2, HP5.out p0 hp h0, g1]
          show (⟨p0.keys.take j ++ [sAt p0.keys j], [], p0.kids.take (j + 1) ++ [iAt p0.kids (j + 1)]⟩ : PG) = _
          rw [sAt_take j1, iAt_take j2]
         clear HT2 HS2 HIN HP5 HJ2
         have LD := hid (L5.out.below (below_drew _))
         go_wp2_with fail
         go_region_law (first
          | (go_simp; go_at_call 179; refine (HTS.out _ LD.out.rs).mono ?_; rintro e w3 ⟨rfl, ho3, hk3⟩; have L3 := LD.out.went ho3 hk3; have t0 := L3.cells.1.2.2; have L4 := L3.below (below_new (o := .cells #[.int .i64 kid] 3) (Below.refl _ _)); have t4 := L4.cells.1.2.2)
          | (refine stepI1 rfl _ _ rfl iv _ _ rfl L4.own.2.2.1 w3.heap.size kid rfl ((Bk.new w3 3 [.int .i64 kid]).cell (j := 0) rfl) (by show p.kids.length ≤ _; omega) (w.heap.size + 1) 2 iv L4.cells.1.2.2 L4.cells.2.2.2 L4.ne.2.2 ?_; intro a5 n5 c5 w5 hO5 hg5 ha5 hc5 hf5))
         all_goals
          have L6 := hid (L4.addI hO5 hg5 ha5)
          clear L3 L4 LD HTS c0 c1 c2 f0 f1 f2 L5 t0 t4 hO5 hg5 ha5 ho3 hk3 hc5 hf5
          go_wp2
          go_roundw
          case rel => exact ⟨j + 1, q3, _, _, _, _, by omega, by go_num, hq3', hr2.2, by show (p.keys ++ [s1]).length = _; simp [hkl], by show (p.kids ++ [kid]).length = _; simp [hil], L6.out, HIN2.out⟩
          case measure => simp [intOf]; omega
     ·have hjN : j = N := by omega
      have HPE : Hid (∀ p0, pgBytes p0 = some zs → ¬ p0.kids.length = 0 → p = p0) := by
       intro p0 hp h0
       obtain ⟨h1, hv⟩ := HNL.out p0 hp h0
       have h2 := ((pgOk_facts (pg_of hp).1).br h0).1
       rw [(HIN.out p0 hp h0).2, hjN]
       exact PG.ext' (List.take_of_length_le (by omega)) hv.symm (List.take_of_length_le (by omega))
      obtain ⟨ka, kc, rfl⟩ := own_shape L2.out.own.1
      obtain ⟨va, vc, rfl⟩ := own_shape L2.out.own.2.1
      obtain ⟨ia, ic, rfl⟩ := own_shape L2.out.own.2.2.1
      have HQ := hid (L2.out.done (.slice ka p.keys.length kc) (.slice va p.vals.length vc) (.slice ia p.kids.length ic) HPE.out)
      generalize p.keys.length = kn at *
      generalize p.vals.length = vn at *
      generalize p.kids.length = jn at *
      obtain ⟨⟨c0, c1, c2⟩, -⟩ := L2.out.cells
      obtain ⟨⟨r0, r1, r2⟩, f0, f1, f2⟩ := L2.out.rcells
      clear hjN HIN HNL L2 hkl hil
      go_wp2
      refine bodyPost_ret (results_pg (x := .slice ka kn kc) (y := .slice va vn vc) (z := .slice ia jn ic) rfl _ _ _ rfl (by go_simp) (by go_simp) (by go_simp)) rfl ?_
      exact HQ.out
open Go.RowKit
def mtOk (g r : Int) : Bool := decide (1 ≤ g ∧ g ≤ 1099511627775) && (decide (r = 0) || decide (2 ≤ r ∧ r < 400))
def wts : List Int := [4294967296, 16777216, 65536, 256, 1]
def five (n : Int) : List Int := wts.map fun W => n / W % 256
def fiveT (n : Int) (j : Nat) : List Int := (wts.take j).map fun W => n / W % 256
def mtHead (g r : Int) : List Int := [77] ++ five g ++ [r / 256, r % 256]
def mtFull (g r : Int) : List Int := mtHead g r ++ List.replicate 499 0 ++ five g
def mtBytes (g r : Int) : Option (List Int) := if mtOk g r = true then some (mtFull g r) else none
theorem five_len (n : Int) : (five n).length = 5 := rfl
theorem mtFull_len (g r : Int) : (mtFull g r).length = 512 := by simp only [mtFull, mtHead, List.length_append, List.length_replicate, five_len, List.length_cons, List.length_nil]
theorem five_byte (n : Int) : ∀ z ∈ five n, 0 ≤ z ∧ z ≤ 255 := by
 intro z hz
 simp only [five, List.mem_map] at hz
 obtain ⟨W, _, rfl⟩ := hz
 omega
theorem mtHead_byte {g r : Int} (h0 : 0 ≤ r) (h1 : r < 400) : ∀ z ∈ mtHead g r, 0 ≤ z ∧ z ≤ 255 :=
 byte_append (byte_append (by intro z hz; simp at hz; omega) (five_byte g)) (by intro z hz; simp at hz; omega)
theorem mtFull_byte {g r : Int} (h0 : 0 ≤ r) (h1 : r < 400) : ∀ z ∈ mtFull g r, 0 ≤ z ∧ z ≤ 255 :=
 byte_append (byte_append (mtHead_byte h0 h1) (fun z hz => by have := List.eq_of_mem_replicate hz; omega)) (five_byte g)
def wAt (j : Nat) : Int := wts[j]?.getD 1
theorem wAt_rng {j : Nat} (h : j < 5) : 1 ≤ wAt j ∧ wAt j ≤ 4294967296 := by
 match j, h with
 | 0, _ => decide
 | 1, _ => decide
 | 2, _ => decide
 | 3, _ => decide
 | 4, _ => decide
theorem fiveT_succ (n : Int) {j : Nat} (h : j < 5) : fiveT n (j + 1) = fiveT n j ++ [n / wAt j % 256] := by
 match j, h with
 | 0, _ => rfl
 | 1, _ => rfl
 | 2, _ => rfl
 | 3, _ => rfl
 | 4, _ => rfl
theorem fiveT_five (n : Int) : fiveT n 5 = five n := rfl
theorem fiveT_len (n : Int) {j : Nat} (h : j ≤ 5) : (fiveT n j).length = j := by
 simp [fiveT, wts]; omega
theorem mtOk_facts {g r : Int} (h : mtOk g r = true) : 1 ≤ g ∧ g ≤ 1099511627775 ∧ 0 ≤ r ∧ r < 400 := by
 simp [mtOk] at h
 omega
set_option maxHeartbeats 4000000 in
theorem specMetaOk_any (g r : Int) (w : World) : Calls Tryz.prog 91 #[.agg #[.int .i64 g, .int .i64 r]] w fun e w' => e = .returned (.bool (mtOk g r)) ∧ Below w.heap.size w w' := by
 have HB := hid (below_new (o := .cells #[.int .i64 g, .int .i64 r] 61) (w := w) (Below.refl _ _))
 have HD : Hid (mtOk g r = (decide (1 ≤ g ∧ g ≤ 1099511627775) && (decide (r = 0) || decide (2 ≤ r ∧ r < 400)))) := rfl
 by_cases q1 : 1 ≤ g
 ·by_cases q2 : g ≤ 1099511627775
  ·have HN := hid (fun w => specNum_any g w true (by rw [decide_eq_true (by omega)]))
   rw [decide_eq_true (show 1 ≤ g ∧ g ≤ 1099511627775 from ⟨q1, q2⟩)] at HD
   by_cases q3 : r = 0
   ·subst q3
    have HF : Hid (mtOk g 0 = true) := by show _ = true; rw [HD.out]; rfl
    go_enter Tryz.func91, Tryz.ntmps91
    go_wp2_with fail
    refine (HN.out _).mono ?_
    rintro e w1 ⟨rfl, rfl⟩
    go_wp2
    go_ret
    exact ⟨by rw [HF.out]; rfl, HB.out⟩
   ·have q3' : (r == 0) = false := by simp [q3]
    by_cases q4 : 2 ≤ r
    ·by_cases q5 : r < 400
     ·have HF : Hid (mtOk g r = true) := by show _ = true; rw [HD.out, decide_eq_true (show 2 ≤ r ∧ r < 400 from ⟨q4, q5⟩)]; simp
      go_enter Tryz.func91, Tryz.ntmps91
      go_wp2_with fail
      refine (HN.out _).mono ?_
      rintro e w1 ⟨rfl, rfl⟩
      go_wp2
      go_ret
      exact ⟨by rw [HF.out]; rfl, HB.out⟩
     ·have HF : Hid (mtOk g r = false) := by show _ = false; rw [HD.out, decide_eq_false q3, decide_eq_false (by omega)]; rfl
      have q5' : decide (r < 400) = false := decide_eq_false q5
      go_enter Tryz.func91, Tryz.ntmps91
      go_wp2_with fail
      refine (HN.out _).mono ?_
      rintro e w1 ⟨rfl, rfl⟩
      go_wp2
      go_ret
      exact ⟨by rw [HF.out]; rfl, HB.out⟩
    ·have HF : Hid (mtOk g r = false) := by show _ = false; rw [HD.out, decide_eq_false q3, decide_eq_false (by omega)]; rfl
     go_enter Tryz.func91, Tryz.ntmps91
     go_wp2_with fail
     refine (HN.out _).mono ?_
     rintro e w1 ⟨rfl, rfl⟩
     go_wp2
     go_ret
     exact ⟨by rw [HF.out]; rfl, HB.out⟩
  ·have HN := hid (fun w => specNum_any g w false (by rw [decide_eq_false (by omega)]))
   have HF : Hid (mtOk g r = false) := by show _ = false; rw [HD.out, decide_eq_false (by omega)]; rfl
   go_enter Tryz.func91, Tryz.ntmps91
   go_wp2_with fail
   refine (HN.out _).mono ?_
   rintro e w1 ⟨rfl, rfl⟩
   go_wp2
   go_ret
   exact ⟨by rw [HF.out]; rfl, HB.out⟩
 ·have HF : Hid (mtOk g r = false) := by show _ = false; rw [HD.out, decide_eq_false (by omega)]; rfl
  go_enter Tryz.func91, Tryz.ntmps91
  go_wp2
  go_ret
  exact ⟨by rw [HF.out]; rfl, HB.out⟩
theorem infoU8' : (Tryz.prog.info? 5).map (fun i => (i.zero, i.size, i.bytes)) = some (some (.int .u8 0), 1, 1) := by kernel_rfl
theorem Ob.lower {w : World} {B B' : Nat} {v : Value} {zs : List Int} (h : Ob w B v zs) (hB : B' ≤ B) : Ob w B' v zs := by
 refine ⟨h.1, h.2.imp id ?_⟩
 rintro ⟨g, cap, cur, h1, h2, h3⟩
 exact ⟨g, cap, cur, h1, Nat.le_trans hB h2, h3⟩
theorem Ob.keep {w w' : World} {B : Nat} {v : Value} {zs : List Int} (h : Ob w B v zs) (hb : Below w.heap.size w w') : Ob w' B v zs := own_kept h (only_of_below hb (fun _ => False)) (fun _ _ h => h)
theorem wpList_append_by {w : World} {ops : Array Oper} {rest : List Oper} {o : Oper} {a : Act} {Q : Exit → Act → World → Prop} (hgd : o.guard = none) (s x : Operand)
  (ho : o.op = .call { callee := .builtin .append, args := #[s, x], argTypes := #[89, 89] }) (B : Nat) (v : Value) (zs : List Int) (hs : a.eval s = v) (hown : Ob w B v zs)
  (ao : Option Addr) (m c : Nat) (ys : List Int) (hx : a.eval x = .slice ao m c) (hsrc : Rd w ao m c ys) (hb : zs.length ≤ 1048576) (hm : m ≤ 1048576) (hB : B ≤ w.heap.size) (hc : ao = none → c = 0)
  (h : ∀ a' n' c' w', Ob w' B (.slice a' n' c') (zs ++ ys) → w.grownBy w' v.ownBlock → ((Value.slice a' n' c').ownBlock = v.ownBlock ∨ (Value.slice a' n' c').ownBlock = some w.heap.size) → wpList Tryz.prog ops Q rest (a.put o.dst (.slice a' n' c')) w') : wpList Tryz.prog ops Q (o :: rest) a w := by
 obtain ⟨i, hi, hz, hsz, hby⟩ := info_of infoU8'
 obtain ⟨r1, r2, r3, r4, r5, r6⟩ := hsrc
 refine wpList_append_row_at hgd s x 89 ho B 5 i _ 1 1 Tryz.underlying89 hi hz hsz hby rfl (by decide) v zs.length (zs.map (Value.int .u8)) hs hown (fun _ => True) _ m (ys.map (Value.int .u8)) hx ?_ (by simp [r1]) (by intro u hu; simp at hu; obtain ⟨z, _, rfl⟩ := hu; rfl) (by unfold maxLen; omega) (by omega) hB ?_
 ·refine ⟨ao, c, rfl, r2, r3, fun h0 => by rw [List.eq_nil_of_length_eq_zero (by omega : ys.length = 0)]; rfl, hc, fun hp => ?_⟩
  obtain ⟨b, off, e, hb, hcell⟩ := r6 hp
  refine ⟨b, off, e, hb, trivial, fun j u hu => ?_⟩
  rw [List.getElem?_map] at hu
  obtain ⟨z, hz, rfl⟩ := Option.map_eq_some_iff.1 hu
  have hj : j < ys.length := (List.getElem?_eq_some_iff.1 hz).1
  have := hcell j (by omega)
  rwa [hz] at this
 ·intro v' w' k1 k2 k3
  obtain ⟨a', c', rfl⟩ := own_shape k1
  refine h a' _ c' w' ?_ k2 k3
  unfold Ob
  rw [List.length_append, List.map_append, ← r1]
  exact k1
def FvPost (n : Int) (w : World) (e : Ending) (w' : World) : Prop := ∃ a c, e = .returned (.slice (some a) 5 c) ∧ Rd w' (some a) 5 c (five n) ∧ w.heap.size ≤ a.block ∧ Below w.heap.size w w'
set_option maxHeartbeats 4000000 in
set_option maxRecDepth 20000 in
theorem five_any (n : Int) (w : World) (h0 : 0 ≤ n) (h1 : n ≤ 1099511627775) : Calls Tryz.prog 92 #[.int .i64 n] w fun e w' => FvPost n w e w' := by
 have HB : Hid (Below w.heap.size w ((w.alloc (.cells #[] 5)).alloc (.cells #[.int .i64 4294967296, .int .i64 16777216, .int .i64 65536, .int .i64 256, .int .i64 1] 3))) := below_new (below_new (Below.refl _ _))
 have HO : Hid (Ob ((w.alloc (.cells #[] 5)).alloc (.cells #[.int .i64 4294967296, .int .i64 16777216, .int .i64 65536, .int .i64 256, .int .i64 1] 3)) w.heap.size (.slice (some ⟨w.heap.size, 0, none⟩) 0 0) (fiveT n 0)) := (ob_new w w.heap.size (Nat.le_refl _)).alloc _
 have HK : Hid (Bk ((w.alloc (.cells #[] 5)).alloc (.cells #[.int .i64 4294967296, .int .i64 16777216, .int .i64 65536, .int .i64 256, .int .i64 1] 3)) (w.heap.size + 1) 3 (wts.map (Value.int .i64))) := by
  have := Bk.new (w.alloc (.cells #[] 5)) 3 (wts.map (Value.int .i64))
  show Bk _ _ _ _
  simpa [wts] using this
 go_enter Tryz.func92, Tryz.ntmps92
 go_wp2_with fail
 generalize (w.alloc (.cells #[] 5)).alloc (.cells #[.int .i64 4294967296, .int .i64 16777216, .int .i64 65536, .int .i64 256, .int .i64 1] 3) = U at *
 generalize hx : w.heap.size + 1 = x at *
 have HX : Hid (w.heap.size < x) := by show _ < _; omega
 clear hx
 go_loopw [3, 9] (fun xv i wr => ∃ (j : Nat) (av : Option Addr) (nv cv : Nat), j ≤ 5 ∧ i = .int .i64 j ∧ xv = .slice av nv cv ∧ Hid (Ob wr w.heap.size (.slice av nv cv) (fiveT n j)) ∧ Hid ((Value.slice av nv cv).ownBlock ≠ some x) ∧ Hid (Bk wr x 3 (wts.map (Value.int .i64))) ∧ Hid (Below w.heap.size w wr)) (fun _ i _ => 5 - (intOf i).toNat)
 case atStart => exact ⟨0, _, _, _, by omega, rfl, rfl, HO.out, fun e => by have h5 := HX.out; have h6 : w.heap.size = x := Option.some.inj e; omega, HK.out, HB.out⟩
 case round =>
  obtain ⟨j, av, nv, cv, hj, rfl, rfl, O1, N1, K1, B1⟩ := hrel
  clear HB HO HK
  by_cases hlt : j < 5
  ·have hlt' : (j : Int) < 5 := by omega
   have m0 : wr.cell? ⟨x, j, none⟩ = some (.int .i64 (wAt j)) := K1.out.cell (by simp [wAt, wts]; match j, hlt with | 0, _ => rfl | 1, _ => rfl | 2, _ => rfl | 3, _ => rfl | 4, _ => rfl)
   obtain ⟨w1, w2⟩ := wAt_rng hlt
   have HST := hid (fiveT_succ n hlt)
   have HLN := hid (fiveT_len n (show j ≤ 5 by omega))
   generalize wAt j = W at *
   have hW : ¬ W = 0 := by omega
   have hq : n.tdiv W = n / W := Int.tdiv_eq_ediv_of_nonneg h0
   have hq0 : 0 ≤ n / W := Int.ediv_nonneg h0 (by omega)
   have hq1 : n / W ≤ n := Int.ediv_le_self _ h0
   generalize n / W = q at *
   have hr : q.tmod 256 = q % 256 := Int.tmod_eq_emod_of_nonneg hq0
   obtain ⟨z, hz, hz0, hz1⟩ : ∃ z, q % 256 = z ∧ 0 ≤ z ∧ z ≤ 255 := ⟨_, rfl, by omega, by omega⟩
   rw [hz] at hr HST
   have hwq : IntKind.i64.wrap q = q := by simp [IntKind.wrap, IntKind.signed, IntKind.bits]; omega
   have hwz : IntKind.i64.wrap z = z := by simp [IntKind.wrap, IntKind.signed, IntKind.bits]; omega
   have hw8 : IntKind.u8.wrap z = z := by simp [IntKind.wrap, IntKind.signed, IntKind.bits]; omega
   clear hz
   have ba := below_new (o := .cells #[.int .u8 z] 5) (w := wr) (Below.refl _ _)
   have O2 := hid (O1.out.keep ba)
   have K2 := hid (K1.out.below ba)
   have B2 : Hid (Below w.heap.size w (wr.alloc (.cells #[.int .u8 z] 5))) := B1.out.trans (ba.mono B1.out.size)
   have R2 := hid (rd_one wr z hz0 hz1)
   have hll : (fiveT n j).length ≤ 1048576 := by rw [HLN.out]; omega
   have HXL : Hid (x < wr.heap.size) := K1.out.lt
   clear O1 K1 B1 ba
   go_wp2_with (at_builtin; refine wpList_append_by rfl _ _ rfl w.heap.size _ (fiveT n j) rfl O2.out _ 1 1 [z] rfl R2.out hll (by omega) B2.out.size (fun e => by cases e) ?_)
   intro a3 n3 c3 w3 hO3 hg3 ha3
   have hon : Only (fun y => (Value.slice av nv cv).ownBlock = some y) _ w3 := only_of_grown hg3 (fun k e => e)
   have O3 : Hid (Ob w3 w.heap.size (.slice a3 n3 c3) (fiveT n (j + 1))) := by rw [HST.out]; exact hO3
   have K3 := hid (K2.out.to hon (fun e => N1.out e))
   have N3 : Hid ((Value.slice a3 n3 c3).ownBlock ≠ some x) := by
    intro e
    rcases ha3 with e2 | e2
    ·exact N1.out (e2 ▸ e)
    ·rw [e2] at e
     cases e
     have := HXL.out
     omega
   have B3 : Hid (Below w.heap.size w w3) := B2.out.trans (hon.below B2.out.size (fun b hb e => by
    have hk := World.ownsRow.lt O2.out b e
    omega))
   clear hO3 hg3 ha3 hon O2 K2 B2 R2 N1 HST
   go_wp2
   go_roundw
   case rel => exact ⟨j + 1, a3, n3, c3, by omega, by go_num, rfl, O3.out, N3.out, K3.out, B3.out⟩
   case measure => simp [intOf]; omega
  ·obtain rfl : j = 5 := by omega
   have hO := O1.out
   rw [fiveT_five] at hO
   obtain ⟨a', c', e, hR, hlo⟩ := hO.rd (byte_at (five_byte n)) (by rw [five_len]; omega)
   cases e
   have hp : ∃ ad, av = some ad := by
    obtain ⟨b, off, e, _⟩ := hR.2.2.2.2.2 (by rw [five_len]; omega)
    exact ⟨_, e⟩
   obtain ⟨ad, rfl⟩ := hp
   have HR := hid hR
   have HLO := hid (hlo ad rfl)
   clear hO hR hlo O1 K1
   go_wp2
   go_ret
   exact ⟨ad, cv, rfl, HR.out, HLO.out, B1.out⟩
open Go.RowKit
theorem ob_lit (w : World) (z : Int) : Ob (w.alloc (.cells #[.int .u8 z] 5)) w.heap.size (.slice (some ⟨w.heap.size, 0, none⟩) 1 1) [z] :=
 ⟨rfl, .inr ⟨w.heap.size, 1, #[.int .u8 z], rfl, Nat.le_refl _, heap_alloc_new w _, Nat.le_refl _, by decide, rfl, rfl⟩⟩
theorem rd_two (w : World) (y z : Int) (h0 : 0 ≤ y ∧ y ≤ 255) (h1 : 0 ≤ z ∧ z ≤ 255) : Rd (w.alloc (.cells #[.int .u8 y, .int .u8 z] 5)) (some ⟨w.heap.size, 0, none⟩) 2 2 [y, z] := by
 refine ⟨rfl, Nat.le_refl _, by omega, by omega, fun i => ?_, fun _ => ⟨w.heap.size, 0, rfl, by simp, fun i hi => ?_⟩⟩
 ·match i with
  | 0 => exact h0
  | 1 => exact h1
  | n + 2 => simp
 ·have k := Bk.new w 5 [.int .u8 y, .int .u8 z]
  match i, hi with
  | 0, _ => exact k.cell (j := 0) rfl
  | 1, _ => exact k.cell (j := 1) rfl
theorem PutM.got {w w' : World} {r : Option (List Int)} {e : Ending} {zs : List Int} (h : Put w r e w') (hr : r = some zs) : ∃ v, e = .returned (.tuple #[v, .bool true]) ∧ Ob w' w.heap.size v zs ∧ Below w.heap.size w w' := by
 obtain ⟨hb, ⟨h1, _⟩ | ⟨v, zs', h1, h2, h3⟩⟩ := h
 ·rw [hr] at h1; cases h1
 ·rw [hr] at h1; cases h1
  exact ⟨v, h2, h3, hb⟩
theorem btw {u v w : World} (h : Below u.heap.size u v) (k : Below v.heap.size v w) : Below u.heap.size u w := h.trans (k.mono h.size)
theorem Ob.grown {u w w' : World} {v : Value} {zs : List Int} (h : Ob w u.heap.size v zs) (hb : Below u.heap.size u w) (hg : w.grownBy w' v.ownBlock) : Below u.heap.size u w' := by
 have hon : Only (fun y => v.ownBlock = some y) w w' := only_of_grown hg (fun k e => e)
 exact hb.trans (hon.below hb.size (fun b hb' e => by have := (World.ownsRow.lt h b e).1; omega))
theorem Ob.bk {u : Nat} {w w' : World} {v : Value} {zs : List Int} {b : Nat} {T : TypeId} {xs : List Value} (h : Ob w u v zs) (hk : Bk w b T xs) (hg : w.grownBy w' v.ownBlock) (hb : b < u) : Bk w' b T xs :=
 hk.to (only_of_grown hg (R := fun y => v.ownBlock = some y) (fun k e => e)) (fun e => by have := (World.ownsRow.lt h b e).1; omega)
set_option maxHeartbeats 4000000 in
set_option maxRecDepth 20000 in
theorem specMetaBytes_any (g r : Int) (w : World) : Calls Tryz.prog 53 #[.agg #[.int .i64 g, .int .i64 r]] w fun e w' => Put w (mtBytes g r) e w' := by
 have B0 := hid (below_new (o := .cells #[.int .i64 g, .int .i64 r] 61) (w := w) (Below.refl _ _))
 have K0 := hid (Bk.new w 61 [.int .i64 g, .int .i64 r])
 have HZ0 : Hid (w.heap.size < (w.alloc (.cells #[.int .i64 g, .int .i64 r] 61)).heap.size) := by show _ < _; simp
 have HP : Hid (mtBytes g r = if mtOk g r = true then some (mtFull g r) else none) := rfl
 go_enter Tryz.func53, Tryz.ntmps53
 go_wp2_with fail
 refine (specMetaOk_any g r _).mono ?_
 generalize w.alloc (.cells #[.int .i64 g, .int .i64 r] 61) = U at *
 rintro e w1 ⟨rfl, hb1⟩
 have B1 := hid (btw B0.out hb1)
 have K1 := hid (K0.out.below hb1)
 clear hb1 B0 K0 HZ0
 cases hok : mtOk g r with
 | false =>
  have HN : Hid (mtBytes g r = none) := by show _ = _; rw [HP.out, hok]; rfl
  go_wp2
  go_ret2
  exact ⟨B1.out, .inl ⟨HN.out, rfl⟩⟩
 | true =>
  have HN : Hid (mtBytes g r = some (mtFull g r)) := by show _ = _; rw [HP.out, hok]; rfl
  obtain ⟨g0, g1, r0, r1⟩ := mtOk_facts hok
  clear hok HP
  have ba := below_new (o := .cells #[.int .u8 77] 5) (w := w1) (Below.refl _ _)
  have O2 := hid (ob_lit w1 77)
  have K2 := hid (K1.out.below ba)
  have B2 := hid (btw B1.out ba)
  have HZ : Hid (w.heap.size < w1.heap.size) := K1.out.lt
  have c0 := K2.out.cell (j := 0) rfl
  clear ba B1 K1
  go_wp2_with fail
  refine (five_any g _ (by omega) (by omega)).mono ?_
  generalize w1.alloc (.cells #[.int .u8 77] 5) = U1 at *
  generalize w1.heap.size = b1 at *
  rintro e w2 ⟨a2, c2, rfl, hR2, hlo2, hb2⟩
  have O3 := hid (O2.out.keep hb2)
  have K3 := hid (K2.out.below hb2)
  have B3 := hid (btw B2.out hb2)
  have R3 := hid hR2
  have HB1 : Hid (b1 ≤ w2.heap.size) := Nat.le_of_lt (World.ownsRow.lt O3.out b1 rfl).2
  clear hR2 hlo2 hb2 O2 K2 B2 c0
  go_wp2_with (at_builtin; refine wpList_append_by rfl _ _ rfl b1 _ [77] rfl O3.out (some a2) 5 c2 (five g) rfl R3.out (by decide) (by omega) HB1.out (fun e => by cases e) ?_)
  intro a4 n4 c4 w4 hO4 hg4 ha4
  have O4 := hid hO4
  have K4 := hid (O3.out.bk K3.out hg4 HZ.out)
  have B4 : Hid (Below w.heap.size w w4) := (O3.out.lower (Nat.le_of_lt HZ.out)).grown B3.out hg4
  clear hO4 hg4 ha4 O3 K3 B3 R3 HB1
  have hq : r.tdiv 256 = r / 256 := Int.tdiv_eq_ediv_of_nonneg r0
  have hm : r.tmod 256 = r % 256 := Int.tmod_eq_emod_of_nonneg r0
  obtain ⟨y, hy, hy0, hy1⟩ : ∃ y, r / 256 = y ∧ 0 ≤ y ∧ y ≤ 255 := ⟨_, rfl, by omega, by omega⟩
  obtain ⟨z, hz, hz0, hz1⟩ : ∃ z, r % 256 = z ∧ 0 ≤ z ∧ z ≤ 255 := ⟨_, rfl, by omega, by omega⟩
  have HYZ : Hid (mtHead g r = [77] ++ five g ++ [y, z]) := by show _ = _; rw [mtHead, hy, hz]
  rw [hy] at hq
  rw [hz] at hm
  have hw1 : IntKind.i64.wrap y = y := by simp [IntKind.wrap, IntKind.signed, IntKind.bits]; omega
  have hw2 : IntKind.i64.wrap z = z := by simp [IntKind.wrap, IntKind.signed, IntKind.bits]; omega
  have hw3 : IntKind.u8.wrap y = y := by simp [IntKind.wrap, IntKind.signed, IntKind.bits]; omega
  have hw4 : IntKind.u8.wrap z = z := by simp [IntKind.wrap, IntKind.signed, IntKind.bits]; omega
  have HHB := hid (mtHead_byte (g := g) r0 r1)
  clear hy hz
  have ba := below_new (o := .cells #[.int .u8 y, .int .u8 z] 5) (w := w4) (Below.refl _ _)
  have c1 := K4.out.cell (j := 1) rfl
  have O5 := hid (O4.out.keep ba)
  have K5 := hid (K4.out.below ba)
  have B5 := hid (btw B4.out ba)
  have R5 := hid (rd_two w4 y z ⟨hy0, hy1⟩ ⟨hz0, hz1⟩)
  have HB5 : Hid (b1 ≤ (w4.alloc (.cells #[.int .u8 y, .int .u8 z] 5)).heap.size) := by
   obtain ⟨a', c', e⟩ := O5.out.shape
   rcases O5.out.2 with ⟨e2, e3⟩ | ⟨g', cap, cur, e2, hb, hg, _⟩
   ·simp [five_len] at e3
   ·have := (World.ownsRow.lt O5.out g' (by rw [e2]; rfl)).2
    show _ ≤ _
    omega
  have hl6 : (77 :: five g).length ≤ 1048576 := by rw [List.length_cons, five_len]; decide
  clear ba O4 K4 B4
  go_wp2_with (at_builtin; refine wpList_append_by rfl _ _ rfl b1 _ (77 :: five g) rfl O5.out _ 2 2 [y, z] rfl R5.out hl6 (by omega) HB5.out (fun e => by cases e) ?_)
  generalize w4.alloc (.cells #[.int .u8 y, .int .u8 z] 5) = U4 at *
  intro a6 n6 c6 w6 hO6 hg6 ha6
  have hO6 : Ob w6 b1 (.slice a6 n6 c6) (mtHead g r) := by rw [HYZ.out]; simpa using hO6
  have K6 := hid (O5.out.bk K5.out hg6 HZ.out)
  have B6 : Hid (Below w.heap.size w w6) := (O5.out.lower (Nat.le_of_lt HZ.out)).grown B5.out hg6
  obtain ⟨a', c', e, hR6, _⟩ := hO6.rd (byte_at HHB.out) (by simp [mtHead, five_len])
  have hl8 : (mtHead g r).length = 8 := by simp [mtHead, five_len]
  rw [hl8] at e hR6
  cases e
  have R6 := hid hR6
  have HFL : Hid (fl (mtHead g r) 507 = some (mtHead g r ++ List.replicate 499 0)) := by
   show _ = _
   have := fl_ok (mtHead g r) 499 (by rw [hl8]; omega)
   rw [hl8] at this
   exact this
  have HB9 : Hid (∀ z ∈ mtHead g r ++ List.replicate 499 0, 0 ≤ z ∧ z ≤ 255) := byte_append HHB.out (fun z hz => by have := List.eq_of_mem_replicate hz; omega)
  have HL9 : Hid ((mtHead g r ++ List.replicate 499 0).length = 507) := by show _ = _; rw [List.length_append, hl8, List.length_replicate]
  have HEQ : Hid (mtFull g r = mtHead g r ++ List.replicate 499 0 ++ five g) := rfl
  clear hO6 hg6 ha6 hR6 hl8 O5 K5 B5 R5 HB5 HYZ HHB c1
  generalize mtHead g r ++ List.replicate 499 0 = hd at *
  go_wp2_with fail
  refine (specFill_any _ _ _ _ 507 _ R6.out (by omega)).mono ?_
  intro e w7 hput
  obtain ⟨v7, rfl, hO7, hb7⟩ := PutM.got hput HFL.out
  have K7 := hid (K6.out.below hb7)
  have B7 := hid (btw B6.out hb7)
  have HZ7 : Hid (w.heap.size < w6.heap.size) := K6.out.lt
  have O7 := hid (hO7.lower (Nat.le_of_lt HZ7.out))
  have OX := hid hO7
  have HW : Hid (w6.heap.size ≤ w7.heap.size) := hb7.size
  obtain ⟨a7, c7, e7⟩ := hO7.shape
  rw [HL9.out] at e7
  subst e7
  clear hput hO7 hb7 K6 B6 R6 HFL
  have c0 := K7.out.cell (j := 0) rfl
  go_wp2_with fail
  refine (five_any g _ (by omega) (by omega)).mono ?_
  rintro e w8 ⟨a8, c8, rfl, hR8, hlo8, hb8⟩
  have O8 := hid (OX.out.keep hb8)
  have B8 := hid (btw B7.out hb8)
  have R8 := hid hR8
  have HW8 : Hid (w6.heap.size ≤ w8.heap.size) := Nat.le_trans HW.out hb8.size
  clear hR8 hlo8 hb8 O7 OX K7 B7 c0 HW
  go_wp2_with (at_builtin; refine wpList_append_by rfl _ _ rfl w6.heap.size _ hd rfl O8.out (some a8) 5 c8 (five g) rfl R8.out (by rw [HL9.out]; omega) (by omega) HW8.out (fun e => by cases e) ?_)
  intro a9 n9 c9 w9 hO9 hg9 ha9
  have O9 : Hid (Ob w9 w.heap.size (.slice a9 n9 c9) (mtFull g r)) := by rw [HEQ.out]; exact hO9.lower (Nat.le_of_lt HZ7.out)
  have B9 : Hid (Below w.heap.size w w9) := (O8.out.lower (Nat.le_of_lt HZ7.out)).grown B8.out hg9
  clear hO9 hg9 ha9 O8 B8 R8
  go_wp2
  go_ret2
  exact ⟨B9.out, .inr ⟨_, _, HN.out, rfl, O9.out⟩⟩
open Go.RowKit
def acc (zs : List Int) : Nat → Int
 | 0 => 0
 | j + 1 => acc zs j * 256 + zAt zs (j + 1)
def mcd (zs : List Int) : Int × Int := (acc zs 5, zAt zs 6 * 256 + zAt zs 7)
def mrd (zs : List Int) : Option (Int × Int) := if zs.length = 512 ∧ mtBytes (mcd zs).1 (mcd zs).2 = some zs then some (mcd zs) else none
theorem acc_rng {zs : List Int} (hb : ∀ i : Nat, 0 ≤ zs[i]?.getD 0 ∧ zs[i]?.getD 0 ≤ 255) : ∀ j, j ≤ 5 → 0 ≤ acc zs j ∧ acc zs j < 1099511627776 ∧ (j ≤ 4 → acc zs j < 4294967296) ∧ (j ≤ 3 → acc zs j < 16777216) ∧ (j ≤ 2 → acc zs j < 65536) ∧ (j ≤ 1 → acc zs j < 256) ∧ (j ≤ 0 → acc zs j < 1)
 | 0, _ => by simp [acc]
 | j + 1, h => by
  have h1 := acc_rng hb j (by omega)
  have h2 := hb (j + 1)
  have e : acc zs (j + 1) = acc zs j * 256 + zs[j + 1]?.getD 0 := rfl
  rw [e]
  omega
theorem results_mt2 {fn : Func} {p u : Tmp} (h : fn.results = #[.cell p 61, .tmp u]) (tmps : Array Value) (w : World) (g : Nat) {x y b : Value} (hp : tmps.getD p undef = .pointer (some ⟨g, 0, none⟩)) (hb : tmps.getD u undef = b)
  (c0 : w.cell? ⟨g, 0, none⟩ = some x) (c1 : w.cell? ⟨g, 1, none⟩ = some y) : (results fn tmps).run Tryz.prog w = .ok (.tuple #[.agg #[x, y], b]) w := by
 have hp' : tmps[p]?.getD undef = .pointer (some ⟨g, 0, none⟩) := by simpa using hp
 have hb' : tmps[u]?.getD undef = b := by simpa using hb
 have hl : (loadVar 61 ⟨g, 0, none⟩).run Tryz.prog w = .ok (.agg #[x, y]) w := by go_simp
 simp [results, h, hp', hb', asAddr, hl, Result.andThen]
def MrPost (o : Option (Int × Int)) (w : World) (e : Ending) (w' : World) : Prop := Below w.heap.size w w' ∧ ((o = none ∧ e = .returned (.tuple #[.agg #[.int .i64 0, .int .i64 0], .bool false])) ∨ ∃ g r, o = some (g, r) ∧ e = .returned (.tuple #[.agg #[.int .i64 g, .int .i64 r], .bool true]))
structure Mb (w v : World) (g r : Int) : Prop where
 be : Below w.heap.size w v
 rb : Bk v w.heap.size 61 [.int .i64 0, .int .i64 0]
 bk : Bk v (w.heap.size + 1) 61 [.int .i64 g, .int .i64 r]
theorem Mb.below {w v v' : World} {g r : Int} (h : Mb w v g r) (hb : Below v.heap.size v v') : Mb w v' g r := ⟨btw h.be hb, h.rb.below hb, h.bk.below hb⟩
theorem Mb.set0 {w v : World} {g r : Int} (h : Mb w v g r) (g' : Int) : Mb w (v.setCell ⟨w.heap.size + 1, 0, none⟩ (.int .i64 g')) g' r := ⟨h.be.setCell (p := ⟨w.heap.size + 1, 0, none⟩) (Nat.le_succ _) _, h.rb.setOther (by omega) _ _, h.bk.set 0 _⟩
theorem Mb.set1 {w v : World} {g r : Int} (h : Mb w v g r) (r' : Int) : Mb w (v.setCell ⟨w.heap.size + 1, 1, none⟩ (.int .i64 r')) g r' := ⟨h.be.setCell (p := ⟨w.heap.size + 1, 1, none⟩) (Nat.le_succ _) _, h.rb.setOther (by omega) _ _, h.bk.set 1 _⟩
theorem Mb.cells {w v : World} {g r : Int} (h : Mb w v g r) : v.cell? ⟨w.heap.size + 1, 0, none⟩ = some (.int .i64 g) ∧ v.cell? ⟨w.heap.size + 1, 1, none⟩ = some (.int .i64 r) ∧ v.frozen? ⟨w.heap.size + 1, 0, none⟩ = false ∧ v.frozen? ⟨w.heap.size + 1, 1, none⟩ = false := ⟨h.bk.cell (j := 0) rfl, h.bk.cell (j := 1) rfl, h.bk.free 0, h.bk.free 1⟩
theorem Mb.rcells {w v : World} {g r : Int} (h : Mb w v g r) : v.cell? ⟨w.heap.size, 0, none⟩ = some (.int .i64 0) ∧ v.cell? ⟨w.heap.size, 1, none⟩ = some (.int .i64 0) ∧ v.frozen? ⟨w.heap.size, 0, none⟩ = false ∧ v.frozen? ⟨w.heap.size, 1, none⟩ = false := ⟨h.rb.cell (j := 0) rfl, h.rb.cell (j := 1) rfl, h.rb.free 0, h.rb.free 1⟩
theorem Mb.out {w v : World} {g r : Int} (h : Mb w v g r) (x y : Value) : Below w.heap.size w ((v.setCell ⟨w.heap.size, 0, none⟩ x).setCell ⟨w.heap.size, 1, none⟩ y) := (h.be.setCell (p := ⟨w.heap.size, 0, none⟩) (Nat.le_refl _) _).setCell (p := ⟨w.heap.size, 1, none⟩) (Nat.le_refl _) _
set_option maxHeartbeats 4000000 in
set_option maxRecDepth 20000 in
theorem specMetaRead_any (a : Option Addr) (n c : Nat) (zs : List Int) (w : World) (h : Rd w a n c zs) :
  Calls Tryz.prog 62 #[.slice a n c] w fun e w' => MrPost (mrd zs) w e w' := by
 have hzl : n = zs.length := h.1
 have HBY := hid h.2.2.2.2.1
 have HR := hid h
 have M0 : Hid (Mb w ((w.alloc (.cells #[.int .i64 0, .int .i64 0] 61)).alloc (.cells #[.int .i64 0, .int .i64 0] 61)) 0 0) := by
  have k1 := Bk.new (w.alloc (.cells #[.int .i64 0, .int .i64 0] 61)) 61 [.int .i64 0, .int .i64 0]
  exact ⟨below_new (below_new (Below.refl _ _)), (Bk.new w 61 [.int .i64 0, .int .i64 0]).alloc _, by simpa using k1⟩
 obtain ⟨p0, p1, pf0, pf1⟩ := M0.out.cells
 obtain ⟨r0, r1, rf0, rf1⟩ := M0.out.rcells
 by_cases h512 : n = 512
 ·subst h512
  have HZL : Hid (zs.length = 512) := hzl.symm
  obtain ⟨b, off, rfl, hbl, hcell⟩ := h.2.2.2.2.2 (by omega)
  have HC : Hid (∀ v, Below w.heap.size w v → ∀ i, i < 512 → v.cell? ⟨b, off + i, none⟩ = some (.int .u8 (zAt zs i))) := by
   intro v hb i hi
   rw [hb.cell (p := ⟨b, off + i, none⟩) hbl]
   exact hcell i hi
  have HNB : Hid (b < w.heap.size) := hbl
  clear hcell hbl hzl h p0 p1 pf0 pf1 r0 r1 rf0 rf1
  go_enter Tryz.func62, Tryz.ntmps62
  go_wp2_with fail
  generalize (w.alloc (.cells #[.int .i64 0, .int .i64 0] 61)).alloc (.cells #[.int .i64 0, .int .i64 0] 61) = U at *
  go_loopw [5] (fun i wr => ∃ (j : Nat), j ≤ 5 ∧ i = .int .i64 ((j : Int) + 1) ∧ Hid (Mb w wr (acc zs j) 0)) (fun i _ => 6 - (intOf i).toNat)
  case atStart => exact ⟨0, by omega, rfl, M0.out⟩
  case round =>
   obtain ⟨j, hj, rfl, M1⟩ := hrel
   clear M0
   by_cases hlt : j < 5
   ·have hlt' : (j : Int) + 1 < 6 := by omega
    have M2 := hid (M1.out.below (below_drew _))
    obtain ⟨p0, p1, pf0, pf1⟩ := M2.out.cells
    have m0 := HC.out _ M2.out.be (j + 1) (by omega)
    have hac := acc_rng HBY.out j (by omega)
    have hz := HBY.out (j + 1)
    have HST : Hid (acc zs (j + 1) = acc zs j * 256 + zAt zs (j + 1)) := rfl
    have hz' : 0 ≤ zAt zs (j + 1) ∧ zAt zs (j + 1) ≤ 255 := hz
    have hac0 := hac.1
    have hac1 : acc zs j < 4294967296 := hac.2.2.1 (by omega)
    have M3 := hid (M2.out.set0 (acc zs (j + 1)))
    rw [HST.out] at M3
    clear hz hac M1
    generalize acc zs j = G at *
    generalize zAt zs (j + 1) = z at *
    have hw1 : IntKind.i64.wrap (G * 256) = G * 256 := by simp [IntKind.wrap, IntKind.signed, IntKind.bits]; omega
    have hw2 : IntKind.i64.wrap z = z := by simp [IntKind.wrap, IntKind.signed, IntKind.bits]; omega
    have hw3 : IntKind.i64.wrap (G * 256 + z) = G * 256 + z := by simp [IntKind.wrap, IntKind.signed, IntKind.bits]; omega
    have hi2 : (j : Int) + 1 < 512 := by omega
    have hi3 : (0 : Int) ≤ (j : Int) + 1 := by omega
    go_wp2_with fail
    go_region_with (fail)
    all_goals
     clear p0 p1 pf0 pf1 m0 M2 hw1 hw2 hw3
     go_wp2
     go_roundw
     case rel => exact ⟨j + 1, by omega, by go_num, by rw [HST.out]; exact M3.out⟩
     case measure => simp [intOf]; omega
   ·obtain rfl : j = 5 := by omega
    have M2 := hid (M1.out.below (below_drew _))
    obtain ⟨p0, p1, pf0, pf1⟩ := M2.out.cells
    have m6 := HC.out _ M2.out.be 6 (by omega)
    have m7 := HC.out _ M2.out.be 7 (by omega)
    have hz6 : 0 ≤ zAt zs 6 ∧ zAt zs 6 ≤ 255 := HBY.out 6
    have hz7 : 0 ≤ zAt zs 7 ∧ zAt zs 7 ≤ 255 := HBY.out 7
    have HM : Hid (mcd zs = (acc zs 5, zAt zs 6 * 256 + zAt zs 7)) := rfl
    have M3 := hid (M2.out.set1 (zAt zs 6 * 256 + zAt zs 7))
    clear M1
    generalize acc zs 5 = G at *
    generalize zAt zs 6 = y at *
    generalize zAt zs 7 = z at *
    have hw1 : IntKind.i64.wrap (y * 256) = y * 256 := by simp [IntKind.wrap, IntKind.signed, IntKind.bits]; omega
    have hw2 : IntKind.i64.wrap z = z := by simp [IntKind.wrap, IntKind.signed, IntKind.bits]; omega
    have hw3 : IntKind.i64.wrap (y * 256 + z) = y * 256 + z := by simp [IntKind.wrap, IntKind.signed, IntKind.bits]; omega
    have hw4 : IntKind.i64.wrap y = y := by simp [IntKind.wrap, IntKind.signed, IntKind.bits]; omega
    go_wp2_with fail
    go_cut [5] (fun x v => x = x ∧ Hid (Mb w v G (y * 256 + z)))
    case first =>
     go_region_with (fail)
     all_goals (go_wp2_with fail; go_meet)
     all_goals exact ⟨trivial, M3.out⟩
    case rest =>
     obtain ⟨-, M4⟩ := hcut
     clear p0 p1 pf0 pf1 m6 m7 M2 M3 hw1 hw2 hw3 hw4
     obtain ⟨p0, p1, pf0, pf1⟩ := M4.out.cells
     generalize y * 256 + z = R at *
     go_wp2_with fail
     refine (specMetaBytes_any G R _).mono ?_
     intro e w5 hput
     obtain ⟨hb5, ⟨hnn, rfl⟩ | ⟨v5, bs, hss, rfl, hO5⟩⟩ := hput
     ·have HPR : Hid (mrd zs = none) := by
       show mrd zs = none
       rw [mrd, if_neg]
       rintro ⟨_, h⟩
       rw [HM.out, hnn] at h
       cases h
      have M5 := hid (M4.out.below hb5)
      obtain ⟨r0, r1, rf0, rf1⟩ := M5.out.rcells
      clear hb5 hnn M4 p0 p1 pf0 pf1
      go_wp2
      refine bodyPost_ret (results_mt2 (x := .int .i64 0) (y := .int .i64 0) rfl _ _ _ rfl rfl (by go_simp) (by go_simp)) rfl ?_
      exact ⟨M5.out.out _ _, .inl ⟨HPR.out, rfl⟩⟩
     ·have hbs : (∀ z ∈ bs, 0 ≤ z ∧ z ≤ 255) ∧ bs.length = 512 := by
       unfold mtBytes at hss
       split at hss
       ·rename_i hok
        cases hss
        have := mtOk_facts hok
        exact ⟨mtFull_byte this.2.2.1 this.2.2.2, mtFull_len _ _⟩
       ·cases hss
      obtain ⟨a5, c5, e5, hR5, _⟩ := hO5.rd (byte_at hbs.1) (by rw [hbs.2]; omega)
      rw [hbs.2] at e5 hR5
      subst e5
      have R5 := hid hR5
      have M5 := hid (M4.out.below hb5)
      have RB := hid (HR.out.kept M5.out.be)
      have HSS := hid hss
      clear hb5 hO5 hR5 hbs hss M4 p0 p1 pf0 pf1
      obtain ⟨p0, p1, pf0, pf1⟩ := M5.out.cells
      obtain ⟨r0, r1, rf0, rf1⟩ := M5.out.rcells
      go_wp2_with fail
      refine (same_any a5 _ 512 _ c5 _ bs zs _ R5.out RB.out).mono ?_
      by_cases heq : bs = zs
      ·have HPR : Hid (mrd zs = some (G, R)) := by
        show mrd zs = some (G, R)
        rw [mrd, if_pos, HM.out]
        exact ⟨HZL.out, by rw [HM.out, HSS.out, heq]⟩
       rw [decide_eq_true heq]
       rintro e w6 ⟨rfl, rfl⟩
       clear R5 RB HSS heq
       go_wp2
       refine bodyPost_ret (results_mt2 (x := .int .i64 G) (y := .int .i64 R) rfl _ _ _ rfl rfl (by go_simp) (by go_simp)) rfl ?_
       exact ⟨M5.out.out _ _, .inr ⟨G, R, HPR.out, rfl⟩⟩
      ·have HPR : Hid (mrd zs = none) := by
        show mrd zs = none
        rw [mrd, if_neg]
        rintro ⟨_, h⟩
        rw [HM.out, HSS.out] at h
        cases h
        exact heq rfl
       rw [decide_eq_false heq]
       rintro e w6 ⟨rfl, rfl⟩
       clear R5 RB HSS heq
       go_wp2
       refine bodyPost_ret (results_mt2 (x := .int .i64 0) (y := .int .i64 0) rfl _ _ _ rfl rfl (by go_simp) (by go_simp)) rfl ?_
       exact ⟨M5.out.out _ _, .inl ⟨HPR.out, rfl⟩⟩
 ·have h512' : ((n : Int) != 512) = true := by simp; omega
  have HPR : Hid (mrd zs = none) := by
   show mrd zs = none
   rw [mrd, if_neg]
   rintro ⟨h, _⟩
   omega
  have HBF := hid M0.out.be
  clear HBY HR M0 h hzl
  go_enter Tryz.func62, Tryz.ntmps62
  go_wp2
  refine bodyPost_ret (results_mt2 (x := .int .i64 0) (y := .int .i64 0) rfl _ _ _ rfl rfl (by go_simp) (by go_simp)) rfl ?_
  exact ⟨HBF.out, .inl ⟨HPR.out, rfl⟩⟩
end Go.Proofs.YtidjehapeanpbaaGreatDoor
