/-
  Disks in the law's helpers: sizes summed, held against each other.
-/
import Derived.Test.YtidjehapeanpbaaGreatDoorMo1
import Derived.Deep.RegionLaw
import Derived.Deep.DeepCutAuto
import Derived.RowKit
import Derived.Maps.AppendAt
import Derived.Laws.IdiomStrings
namespace Go.Proofs.YtidjehapeanpbaaGreatDoor
open Go.RowKit
set_option linter.unusedVariables false
def offS (ss : List (List Int)) : Nat → Nat
 | 0 => 0
 | k + 1 => offS ss k + (shAt ss k).length
theorem offS_mono (ss : List (List Int)) {i n : Nat} (h : i ≤ n) : offS ss i ≤ offS ss n := by
 induction n with
 | zero => obtain rfl : i = 0 := by omega
           exact Nat.le_refl _
 | succ n ih =>
  by_cases e : i = n + 1
  ·subst e; exact Nat.le_refl _
  ·exact Nat.le_trans (ih (by omega)) (Nat.le_add_right _ _)
theorem offS_at (ss : List (List Int)) {i n : Nat} (h : i < n) : (shAt ss i).length ≤ offS ss n := by
 have := offS_mono ss (show i + 1 ≤ n by omega)
 simp only [offS] at this
 omega
def dkSum (d : DK) : Nat := d.sh.length + offS d.sh d.sh.length + d.dw.length + offS (d.dw.map Prod.snd) d.dw.length
theorem small_of_sum {d : DK} (h : dkSum d ≤ 1048576) : smallD d ∧ d.sh.length ≤ 1048576 ∧ d.dw.length ≤ 1048576 := by
 unfold dkSum at h
 refine ⟨⟨fun i hi => ?_, fun i hi => ?_⟩, by omega, by omega⟩
 ·have := offS_at d.sh hi; omega
 ·have := offS_at (d.dw.map Prod.snd) hi; rw [shAt_map] at this; omega
theorem szByteS_at (a : Option Addr) (n c : Nat) (left : Int) (w : World) (hc : n ≤ 9223372036854775807) (h0 : 0 ≤ left) (h1 : left ≤ 1048576) :
  Calls Tryz.prog 101 #[.slice a n c, .int .i64 left] w fun e w' => (∃ y : Int, e = .returned (.int .i64 y) ∧ y ≤ left ∧ -1 ≤ y ∧ (0 ≤ y → y + (n : Int) = left)) ∧ w' = w := by
 by_cases hneg : left - (n : Int) < 0
 ·go_enter Tryz.func101, Tryz.ntmps101
  go_wp2
  go_ret
  exact ⟨⟨_, rfl, by omega, by omega, fun h => by omega⟩, rfl⟩
 ·go_enter Tryz.func101, Tryz.ntmps101
  go_wp2
  go_ret
  exact ⟨⟨_, rfl, by omega, by omega, fun h => by omega⟩, rfl⟩
set_option maxHeartbeats 2000000 in
theorem szSheet_any (a : Option Addr) (n c : Nat) (left : Int) (w : World) (hc : n ≤ 9223372036854775807) (h0 : 0 ≤ left) (h1 : left ≤ 1048576) :
  Calls Tryz.prog 59 #[.agg #[.slice a n c], .int .i64 left] w fun e w' => (∃ y : Int, e = .returned (.int .i64 y) ∧ y ≤ left ∧ -1 ≤ y ∧ (0 ≤ y → y + (n : Int) = left)) ∧ Below w.heap.size w w' := by
 have HB0 : Hid (Below w.heap.size w (w.alloc (.cells #[.slice a n c] 98))) := below_new (Below.refl _ _)
 go_enter Tryz.func59, Tryz.ntmps59
 go_wp2_with fail
 refine (szByteS_at a n c left _ hc h0 h1).mono ?_
 rintro e w1 ⟨⟨y, rfl, hy1, hy2, hy3⟩, rfl⟩
 have HY := hid hy3
 clear hy3
 by_cases hneg : y < 0
 ·go_wp2
  go_ret
  exact ⟨⟨_, rfl, by omega, by omega, fun h => by omega⟩, HB0.out⟩
 ·go_wp2
  go_ret
  exact ⟨⟨_, rfl, by omega, by omega, HY.out⟩, HB0.out⟩
set_option maxHeartbeats 2000000 in
theorem szWrite_any (t : Int) (a : Option Addr) (n c : Nat) (left : Int) (w : World) (hc : n ≤ 9223372036854775807) (h0 : 0 ≤ left) (h1 : left ≤ 1048576) :
  Calls Tryz.prog 60 #[.agg #[.int .i64 t, .slice a n c], .int .i64 left] w fun e w' => (∃ y : Int, e = .returned (.int .i64 y) ∧ y ≤ left ∧ -1 ≤ y ∧ (0 ≤ y → y + (n : Int) = left)) ∧ Below w.heap.size w w' := by
 have HB0 : Hid (Below w.heap.size w (w.alloc (.cells #[.int .i64 t, .slice a n c] 101))) := below_new (Below.refl _ _)
 go_enter Tryz.func60, Tryz.ntmps60
 go_wp2_with fail
 refine (szByteS_at a n c left _ hc h0 h1).mono ?_
 rintro e w1 ⟨⟨y, rfl, hy1, hy2, hy3⟩, rfl⟩
 have HY := hid hy3
 clear hy3
 by_cases hneg : y < 0
 ·go_wp2
  go_ret
  exact ⟨⟨_, rfl, by omega, by omega, fun h => by omega⟩, HB0.out⟩
 ·go_wp2
  go_ret
  exact ⟨⟨_, rfl, by omega, by omega, HY.out⟩, HB0.out⟩
set_option maxHeartbeats 2000000 in
theorem szSheetS_at (S : Nat → Prop) (a : Option Addr) (n c : Nat) (ss : List (List Int)) (left : Int) (w : World) (h : Shr w S (.slice a n c) ss) (h0 : 0 ≤ left) (h1 : left ≤ 1048576) :
  Calls Tryz.prog 21 #[.slice a n c, .int .i64 left] w fun e w' => (∃ x : Int, e = .returned (.int .i64 x) ∧ x ≤ left ∧ -1 ≤ x ∧ (0 ≤ x → x + ((n + offS ss n : Nat) : Int) = left)) ∧ Below w.heap.size w w' := by
 obtain ⟨hn, hnc, hcc⟩ := h.len
 have HN := hid hn
 have H0 := hid h
 clear h hn
 by_cases hbig : left - (n : Int) < 0
 ·go_enter Tryz.func21, Tryz.ntmps21
  go_wp2
  go_ret
  exact ⟨⟨_, rfl, by omega, by omega, fun h => by omega⟩, Below.refl _ _⟩
 ·have hn2 : n ≤ 1048576 := by omega
  go_enter Tryz.func21, Tryz.ntmps21
  go_wp2
  go_loopw [1, 5] (fun x i wr => ∃ (k : Nat) (y : Int), k ≤ n ∧ i = .int .i64 k ∧ x = .int .i64 y ∧ 0 ≤ y ∧ y ≤ left ∧ Hid (y + ((n + offS ss k : Nat) : Int) = left) ∧ Hid (Below w.heap.size w wr)) (fun _ i _ => n - (intOf i).toNat)
  case atStart => exact ⟨0, _, Nat.zero_le _, rfl, rfl, by omega, by omega, (by show _ = _; simp [offS]), Below.refl _ _⟩
  case round =>
   obtain ⟨k, y, hk, rfl, rfl, hy0, hy1, HS, HB⟩ := hrel
   by_cases hlt : k < n
   ·have hlt' : (k : Int) < (n : Int) := by omega
    have HP := hid (H0.out.below HB.out)
    obtain ⟨b, off, rfl, _, hbw, hcell⟩ := HP.out.at (by omega)
    obtain ⟨ap, np, cp, c0, hp⟩ := hcell k hlt
    have l0 := hid hp.len.1
    have lc : np ≤ 9223372036854775807 := by have := hp.len.2; omega
    have HOF : Hid (offS ss (k + 1) = offS ss k + np) := by show _ = _; rw [offS, l0.out]
    clear hcell hbw HP hp
    go_wp2_with fail
    refine (szSheet_any ap np cp y wr lc hy0 (by omega)).mono ?_
    rintro e w1 ⟨⟨z, rfl, hz1, hz2, hz3⟩, hb1⟩
    have HB1 := hid (HB.out.trans (hb1.mono HB.out.size))
    have HZ3 := hid hz3
    clear hb1 hz3
    by_cases hneg : z < 0
    ·go_wp2
     go_ret
     exact ⟨⟨_, rfl, by omega, by omega, fun h => by omega⟩, HB1.out⟩
    ·have HS1 : Hid (z + ((n + offS ss (k + 1) : Nat) : Int) = left) := by
      have h2 := HZ3.out (by omega)
      have h3 := HS.out
      show _ = _
      rw [HOF.out]
      omega
     clear HOF HS HZ3
     go_wp2
     go_roundw
     case rel => exact ⟨k + 1, z, by omega, by go_num, rfl, by omega, by omega, HS1.out, HB1.out⟩
     case measure => simp [intOf]; omega
   ·have hk' : k = n := by omega
    have HS1 : Hid (y + ((n + offS ss n : Nat) : Int) = left) := by rw [hk'] at HS; exact HS.out
    clear hk' HS
    go_wp2
    go_ret
    exact ⟨⟨_, rfl, by omega, by omega, fun _ => HS1.out⟩, HB.out⟩
set_option maxHeartbeats 2000000 in
theorem szWriteS_at (S : Nat → Prop) (a : Option Addr) (n c : Nat) (ss : List DW) (left : Int) (w : World) (h : Wrr w S (.slice a n c) ss) (h0 : 0 ≤ left) (h1 : left ≤ 1048576) :
  Calls Tryz.prog 22 #[.slice a n c, .int .i64 left] w fun e w' => (∃ x : Int, e = .returned (.int .i64 x) ∧ x ≤ left ∧ -1 ≤ x ∧ (0 ≤ x → x + ((n + offS (ss.map Prod.snd) n : Nat) : Int) = left)) ∧ Below w.heap.size w w' := by
 obtain ⟨hn, hnc, hcc⟩ := h.len
 have HN := hid hn
 have H0 := hid h
 clear h hn
 by_cases hbig : left - (n : Int) < 0
 ·go_enter Tryz.func22, Tryz.ntmps22
  go_wp2
  go_ret
  exact ⟨⟨_, rfl, by omega, by omega, fun h => by omega⟩, Below.refl _ _⟩
 ·have hn2 : n ≤ 1048576 := by omega
  go_enter Tryz.func22, Tryz.ntmps22
  go_wp2
  go_loopw [1, 5] (fun x i wr => ∃ (k : Nat) (y : Int), k ≤ n ∧ i = .int .i64 k ∧ x = .int .i64 y ∧ 0 ≤ y ∧ y ≤ left ∧ Hid (y + ((n + offS (ss.map Prod.snd) k : Nat) : Int) = left) ∧ Hid (Below w.heap.size w wr)) (fun _ i _ => n - (intOf i).toNat)
  case atStart => exact ⟨0, _, Nat.zero_le _, rfl, rfl, by omega, by omega, (by show _ = _; simp [offS]), Below.refl _ _⟩
  case round =>
   obtain ⟨k, y, hk, rfl, rfl, hy0, hy1, HS, HB⟩ := hrel
   by_cases hlt : k < n
   ·have hlt' : (k : Int) < (n : Int) := by omega
    have HP := hid (H0.out.below HB.out)
    obtain ⟨b, off, rfl, _, hbw, hcell⟩ := HP.out.at (by omega)
    obtain ⟨ap, np, cp, ct, c0, hp⟩ := hcell k hlt
    have l0 := hid hp.len.1
    have lc : np ≤ 9223372036854775807 := by have := hp.len.2; omega
    have HOF : Hid (offS (ss.map Prod.snd) (k + 1) = offS (ss.map Prod.snd) k + np) := by show _ = _; rw [offS, l0.out, shAt_map]
    clear hcell hbw HP hp
    generalize (dwAt ss k).1 = tt at ct
    go_wp2_with fail
    refine (szWrite_any tt ap np cp y wr lc hy0 (by omega)).mono ?_
    rintro e w1 ⟨⟨z, rfl, hz1, hz2, hz3⟩, hb1⟩
    have HB1 := hid (HB.out.trans (hb1.mono HB.out.size))
    have HZ3 := hid hz3
    clear hb1 hz3
    by_cases hneg : z < 0
    ·go_wp2
     go_ret
     exact ⟨⟨_, rfl, by omega, by omega, fun h => by omega⟩, HB1.out⟩
    ·have HS1 : Hid (z + ((n + offS (ss.map Prod.snd) (k + 1) : Nat) : Int) = left) := by
      have h2 := HZ3.out (by omega)
      have h3 := HS.out
      show _ = _
      rw [HOF.out]
      omega
     clear HOF HS HZ3
     go_wp2
     go_roundw
     case rel => exact ⟨k + 1, z, by omega, by go_num, rfl, by omega, by omega, HS1.out, HB1.out⟩
     case measure => simp [intOf]; omega
   ·have hk' : k = n := by omega
    have HS1 : Hid (y + ((n + offS (ss.map Prod.snd) n : Nat) : Int) = left) := by rw [hk'] at HS; exact HS.out
    clear hk' HS
    go_wp2
    go_ret
    exact ⟨⟨_, rfl, by omega, by omega, fun _ => HS1.out⟩, HB.out⟩
set_option maxHeartbeats 2000000 in
theorem szDisk_any (S : Nat → Prop) (sa : Option Addr) (sn sc : Nat) (da : Option Addr) (dn dc : Nat) (d : DK) (w : World) (h : Dk w S sa sn sc da dn dc d) :
  Calls Tryz.prog 6 #[.agg #[.slice sa sn sc, .slice da dn dc], .int .i64 1048576] w fun e w' => (∃ y : Int, e = .returned (.int .i64 y) ∧ y ≤ 1048576 ∧ -1 ≤ y ∧ (0 ≤ y → dkSum d ≤ 1048576)) ∧ Below w.heap.size w w' := by
 have HS := hid h.hs
 have HD := hid h.hd
 have HNS := hid h.hs.len.1
 have HND := hid h.hd.len.1
 clear h
 have HB0 : Hid (Below w.heap.size w (w.alloc (.cells #[.slice sa sn sc, .slice da dn dc] 25))) := below_new (Below.refl _ _)
 have KP : Hid (Bk (w.alloc (.cells #[.slice sa sn sc, .slice da dn dc] 25)) w.heap.size 25 [.slice sa sn sc, .slice da dn dc]) := Bk.new w 25 [.slice sa sn sc, .slice da dn dc]
 go_enter Tryz.func6, Tryz.ntmps6
 go_wp2_with fail
 refine (szSheetS_at S sa sn sc d.sh _ _ (HS.out.below HB0.out) (by omega) (by omega)).mono ?_
 generalize w.alloc (.cells #[.slice sa sn sc, .slice da dn dc] 25) = W at *
 rintro e w1 ⟨⟨y, rfl, hy1, hy2, hy3⟩, hb1⟩
 have HB1 := hid (HB0.out.trans (hb1.mono HB0.out.size))
 have KP1 := hid (KP.out.below hb1)
 have HY := hid hy3
 clear hb1 KP HB0 hy3
 by_cases hneg : y < 0
 ·go_wp2
  go_ret
  exact ⟨⟨_, rfl, by omega, by omega, fun h => by omega⟩, HB1.out⟩
 ·have c1 := KP1.out.cell (j := 1) rfl
  go_wp2_with fail
  refine (szWriteS_at S da dn dc d.dw y _ (HD.out.below HB1.out) (by omega) (by omega)).mono ?_
  rintro e w2 ⟨⟨z, rfl, hz1, hz2, hz3⟩, hb2⟩
  have HB2 := hid (HB1.out.trans (hb2.mono HB1.out.size))
  have HZ := hid hz3
  clear hb2 KP1 HB1 hz3 c1
  by_cases hneg2 : z < 0
  ·go_wp2
   go_ret
   exact ⟨⟨_, rfl, by omega, by omega, fun h => by omega⟩, HB2.out⟩
  ·have HF : Hid (dkSum d ≤ 1048576) := by
    have h1 := HY.out (by omega)
    have h2 := HZ.out (by omega)
    rw [HNS.out] at h1
    rw [HND.out] at h2
    show dkSum d ≤ _
    unfold dkSum
    omega
   clear HY HZ
   go_wp2
   go_ret
   exact ⟨⟨_, rfl, by omega, by omega, fun _ => HF.out⟩, HB2.out⟩
theorem eqByteS_bel (a a' : Option Addr) (n n' c c' : Nat) (zs zs' : List Int) (w : World) (h : Rd w a n c zs) (h' : Rd w a' n' c' zs') :
  Calls Tryz.prog 121 #[.slice a n c, .slice a' n' c'] w fun e w' => e = .returned (.bool (decide (zs = zs'))) ∧ Below w.heap.size w w' :=
 (eqByteS_any a a' n n' c c' zs zs' w h h').mono (fun e w' ⟨he, q, hw⟩ => ⟨he, by rw [hw]; exact Below.drewN' (Below.refl _ _) q⟩)
set_option maxHeartbeats 2000000 in
theorem eqSheet_any (a a' : Option Addr) (n n' c c' : Nat) (zs zs' : List Int) (w : World) (h : Rd w a n c zs) (h' : Rd w a' n' c' zs') :
  Calls Tryz.prog 80 #[.agg #[.slice a n c], .agg #[.slice a' n' c']] w fun e w' => e = .returned (.bool (decide (zs = zs'))) ∧ Below w.heap.size w w' := by
 have H0 := hid h
 have H0' := hid h'
 clear h h'
 have HB0 : Hid (Below w.heap.size w ((w.alloc (.cells #[.slice a n c] 102)).alloc (.cells #[.slice a' n' c'] 102))) := below_new (below_new (Below.refl _ _))
 go_enter Tryz.func80, Tryz.ntmps80
 go_wp2_with fail
 refine (eqByteS_bel a a' n n' c c' zs zs' _ (H0.out.kept HB0.out) (H0'.out.kept HB0.out)).mono ?_
 rintro e w1 ⟨rfl, hb1⟩
 have HB1 := hid (HB0.out.trans (hb1.mono HB0.out.size))
 clear hb1 HB0
 by_cases he : zs = zs'
 ·have HE := hid (decide_eq_true he)
  rw [decide_eq_true he]
  clear he
  go_wp2
  go_ret
  exact ⟨by rw [HE.out]; rfl, HB1.out⟩
 ·have HE := hid (decide_eq_false he)
  rw [decide_eq_false he]
  clear he
  go_wp2
  go_ret
  exact ⟨by rw [HE.out]; rfl, HB1.out⟩
set_option maxHeartbeats 2000000 in
theorem eqWrite_any (t t' : Int) (a a' : Option Addr) (n n' c c' : Nat) (zs zs' : List Int) (w : World) (h : Rd w a n c zs) (h' : Rd w a' n' c' zs') :
  Calls Tryz.prog 81 #[.agg #[.int .i64 t, .slice a n c], .agg #[.int .i64 t', .slice a' n' c']] w fun e w' => e = .returned (.bool (decide ((t, zs) = (t', zs')))) ∧ Below w.heap.size w w' := by
 have H0 := hid h
 have H0' := hid h'
 clear h h'
 have HB0 : Hid (Below w.heap.size w ((w.alloc (.cells #[.int .i64 t, .slice a n c] 103)).alloc (.cells #[.int .i64 t', .slice a' n' c'] 103))) := below_new (below_new (Below.refl _ _))
 by_cases ht : t = t'
 ·subst ht
  have ht2 : (t != t) = false := by simp
  go_enter Tryz.func81, Tryz.ntmps81
  go_wp2_with fail
  refine (eqByteS_bel a a' n n' c c' zs zs' _ (H0.out.kept HB0.out) (H0'.out.kept HB0.out)).mono ?_
  rintro e w1 ⟨rfl, hb1⟩
  have HB1 := hid (HB0.out.trans (hb1.mono HB0.out.size))
  clear hb1 HB0
  by_cases he : zs = zs'
  ·have HE : Hid (decide ((t, zs) = (t, zs')) = true) := by show _ = _; simp [he]
   rw [decide_eq_true he]
   clear he
   go_wp2
   go_ret
   exact ⟨by rw [HE.out]; rfl, HB1.out⟩
  ·have HE : Hid (decide ((t, zs) = (t, zs')) = false) := by show _ = _; simp [he]
   rw [decide_eq_false he]
   clear he
   go_wp2
   go_ret
   exact ⟨by rw [HE.out]; rfl, HB1.out⟩
 ·have ht2 : (t != t') = true := by simp [ht]
  have HE : Hid (decide ((t, zs) = (t', zs')) = false) := by show _ = _; simp [ht]
  clear ht
  go_enter Tryz.func81, Tryz.ntmps81
  go_wp2
  go_ret
  exact ⟨by rw [HE.out]; rfl, HB0.out⟩
set_option maxHeartbeats 4000000 in
theorem eqSheetS_at (S S' : Nat → Prop) (a a' : Option Addr) (n n' c c' : Nat) (l l' : List (List Int)) (w : World) (h : Shr w S (.slice a n c) l) (h' : Shr w S' (.slice a' n' c') l') (hs : ∀ i, i < l.length → (shAt l i).length ≤ 1048576) (hs' : ∀ i, i < l'.length → (shAt l' i).length ≤ 1048576) :
  Calls Tryz.prog 34 #[.slice a n c, .slice a' n' c'] w fun e w' => e = .returned (.bool (decide (l = l'))) ∧ Below w.heap.size w w' := by
 obtain ⟨hn, hnc, hcc⟩ := h.len
 obtain ⟨hn', hnc', hcc'⟩ := h'.len
 have HN := hid hn
 have HN' := hid hn'
 have H0 := hid h
 have H0' := hid h'
 have HSM := hid hs
 have HSM' := hid hs'
 clear h h' hn hn' hs hs'
 by_cases hne : n = n'
 ·subst hne
  have hz : ((n : Int) != (n : Int)) = false := by simp
  go_enter Tryz.func34, Tryz.ntmps34
  go_wp2
  go_loopw [5] (fun i wr => ∃ k : Nat, k ≤ n ∧ i = .int .i64 k ∧ Hid (Below w.heap.size w wr) ∧ Hid (l.take k = l'.take k)) (fun i _ => n - (intOf i).toNat)
  case atStart => exact ⟨0, Nat.zero_le _, rfl, Below.refl _ _, rfl⟩
  case round =>
   obtain ⟨k, hk, rfl, HB, HT⟩ := hrel
   by_cases hlt : k < n
   ·have hlt' : (k : Int) < (n : Int) := by omega
    have HP := hid (H0.out.below HB.out)
    have HP' := hid (H0'.out.below HB.out)
    obtain ⟨b, off, rfl, _, hbw, hcell⟩ := HP.out.at (by omega)
    obtain ⟨b', off', rfl, _, hbw', hcell'⟩ := HP'.out.at (by omega)
    obtain ⟨ap, np, cp, c0, hp⟩ := hcell k hlt
    obtain ⟨ap', np', cp', d0, hp'⟩ := hcell' k hlt
    have hr := hp.rd (by rw [hp.len.1]; exact HSM.out k (by rw [← HN.out]; exact hlt))
    have hr' := hp'.rd (by rw [hp'.len.1]; exact HSM'.out k (by rw [← HN'.out]; exact hlt))
    have HC : Hid (∀ v, Below wr.heap.size wr v → Calls Tryz.prog 80 #[.agg #[.slice ap np cp], .agg #[.slice ap' np' cp']] v fun e w' => e = .returned (.bool (decide (shAt l k = shAt l' k))) ∧ Below v.heap.size v w') := fun v hv =>
     eqSheet_any ap ap' np np' cp cp' (shAt l k) (shAt l' k) v (hr.kept hv) (hr'.kept hv)
    have HS : Hid (shAt l k = shAt l' k → l.take (k + 1) = l'.take (k + 1)) := by
     intro e
     have hl : k < l.length := by rw [← HN.out]; exact hlt
     have hl' : k < l'.length := by rw [← HN'.out]; exact hlt
     rw [List.take_succ_eq_append_getElem hl, List.take_succ_eq_append_getElem hl', HT.out]
     simp [shAt, hl, hl'] at e
     rw [e]
    have HF : Hid (shAt l k ≠ shAt l' k → decide (l = l') = false) := by
     intro e
     rw [decide_eq_false_iff_not]
     intro e'
     exact e (by rw [e'])
    have T0 := hid (kc0_2 c0 d0)
    clear hcell hcell' hbw hbw' HP HP' HT hp hp' hr hr' c0 d0 
    generalize shAt l k = cx1 at *
    generalize shAt l' k = cx2 at *
    by_cases he : cx1 = cx2
    ·have HS1 := hid (HS.out he)
     rw [decide_eq_true he] at HC
     clear he HS HF
     go_wp2_with fail
     go_region_held3 (fun v => v.cell? ⟨b, off + k, none⟩ = some (.slice ap np cp) ∧ v.cell? ⟨b', off' + k, none⟩ = some (.slice ap' np' cp') ∧ KC wr v [(⟨b, off + k, none⟩, .slice ap np cp), (⟨b', off' + k, none⟩, .slice ap' np' cp')])
      (first | assumption | exact kc2 (T0.out.call (below_drew _)) | exact kc2c hbC (by assumption))
      (first | (go_at_call 80; refine (HC.out _ (KC.bel (by first | exact (by assumption : _ ∧ _ ∧ _).2.2))).mono ?_; rintro e w' ⟨rfl, hbC⟩))
     all_goals (rename_i hS; have HB1 := hid (Below.then' HB.out hS.2.2.bel (Nat.le_refl _)); clear hS; go_wp2)
     go_roundw
     case rel => exact ⟨k + 1, by omega, by go_num, HB1.out, HS1.out⟩
     case measure => simp [intOf]; omega
    ·have HF1 := hid (HF.out he)
     rw [decide_eq_false he] at HC
     clear he HS HF
     go_wp2_with fail
     go_region_held3 (fun v => v.cell? ⟨b, off + k, none⟩ = some (.slice ap np cp) ∧ v.cell? ⟨b', off' + k, none⟩ = some (.slice ap' np' cp') ∧ KC wr v [(⟨b, off + k, none⟩, .slice ap np cp), (⟨b', off' + k, none⟩, .slice ap' np' cp')])
      (first | assumption | exact kc2 (T0.out.call (below_drew _)) | exact kc2c hbC (by assumption))
      (first | (go_at_call 80; refine (HC.out _ (KC.bel (by first | exact (by assumption : _ ∧ _ ∧ _).2.2))).mono ?_; rintro e w' ⟨rfl, hbC⟩))
     all_goals (rename_i hS; have HB1 := hid (Below.then' HB.out hS.2.2.bel (Nat.le_refl _)); clear hS; go_wp2)
     go_ret
     exact ⟨by rw [HF1.out]; rfl, HB1.out⟩
   ·have HF : Hid (decide (l = l') = true) := by
     show decide (l = l') = true
     have hk' : k = n := by omega
     have e := HT.out
     have e1 : l.length ≤ k := by rw [← HN.out]; omega
     have e2 : l'.length ≤ k := by rw [← HN'.out]; omega
     rw [List.take_of_length_le e1, List.take_of_length_le e2] at e
     simp [e]
    clear HT
    go_wp2
    go_ret
    exact ⟨by rw [HF.out]; rfl, HB.out⟩
 ·have hz : ((n : Int) != (n' : Int)) = true := by simp; omega
  have HF : Hid (decide (l = l') = false) := by
   show decide (l = l') = false
   rw [decide_eq_false_iff_not]
   intro e
   exact hne (by rw [HN.out, HN'.out, e])
  clear hne
  go_enter Tryz.func34, Tryz.ntmps34
  go_wp2
  go_ret
  exact ⟨by rw [HF.out]; rfl, Below.refl _ _⟩
set_option maxHeartbeats 4000000 in
theorem eqWriteS_at (S S' : Nat → Prop) (a a' : Option Addr) (n n' c c' : Nat) (l l' : List DW) (w : World) (h : Wrr w S (.slice a n c) l) (h' : Wrr w S' (.slice a' n' c') l') (hs : ∀ i, i < l.length → (dwAt l i).2.length ≤ 1048576) (hs' : ∀ i, i < l'.length → (dwAt l' i).2.length ≤ 1048576) :
  Calls Tryz.prog 35 #[.slice a n c, .slice a' n' c'] w fun e w' => e = .returned (.bool (decide (l = l'))) ∧ Below w.heap.size w w' := by
 obtain ⟨hn, hnc, hcc⟩ := h.len
 obtain ⟨hn', hnc', hcc'⟩ := h'.len
 have HN := hid hn
 have HN' := hid hn'
 have H0 := hid h
 have H0' := hid h'
 have HSM := hid hs
 have HSM' := hid hs'
 clear h h' hn hn' hs hs'
 by_cases hne : n = n'
 ·subst hne
  have hz : ((n : Int) != (n : Int)) = false := by simp
  go_enter Tryz.func35, Tryz.ntmps35
  go_wp2
  go_loopw [5] (fun i wr => ∃ k : Nat, k ≤ n ∧ i = .int .i64 k ∧ Hid (Below w.heap.size w wr) ∧ Hid (l.take k = l'.take k)) (fun i _ => n - (intOf i).toNat)
  case atStart => exact ⟨0, Nat.zero_le _, rfl, Below.refl _ _, rfl⟩
  case round =>
   obtain ⟨k, hk, rfl, HB, HT⟩ := hrel
   by_cases hlt : k < n
   ·have hlt' : (k : Int) < (n : Int) := by omega
    have HP := hid (H0.out.below HB.out)
    have HP' := hid (H0'.out.below HB.out)
    obtain ⟨b, off, rfl, _, hbw, hcell⟩ := HP.out.at (by omega)
    obtain ⟨b', off', rfl, _, hbw', hcell'⟩ := HP'.out.at (by omega)
    obtain ⟨ap, np, cp, ct, c0, hp⟩ := hcell k hlt
    obtain ⟨ap', np', cp', dt, d0, hp'⟩ := hcell' k hlt
    have hr := hp.rd (by rw [hp.len.1]; exact HSM.out k (by rw [← HN.out]; exact hlt))
    have hr' := hp'.rd (by rw [hp'.len.1]; exact HSM'.out k (by rw [← HN'.out]; exact hlt))
    have HC : Hid (∀ v, Below wr.heap.size wr v → Calls Tryz.prog 81 #[.agg #[.int .i64 (dwAt l k).1, .slice ap np cp], .agg #[.int .i64 (dwAt l' k).1, .slice ap' np' cp']] v fun e w' => e = .returned (.bool (decide (dwAt l k = dwAt l' k))) ∧ Below v.heap.size v w') := fun v hv =>
     eqWrite_any (dwAt l k).1 (dwAt l' k).1 ap ap' np np' cp cp' (dwAt l k).2 (dwAt l' k).2 v (hr.kept hv) (hr'.kept hv)
    have HS : Hid (dwAt l k = dwAt l' k → l.take (k + 1) = l'.take (k + 1)) := by
     intro e
     have hl : k < l.length := by rw [← HN.out]; exact hlt
     have hl' : k < l'.length := by rw [← HN'.out]; exact hlt
     rw [List.take_succ_eq_append_getElem hl, List.take_succ_eq_append_getElem hl', HT.out]
     simp [dwAt, hl, hl'] at e
     rw [e]
    have HF : Hid (dwAt l k ≠ dwAt l' k → decide (l = l') = false) := by
     intro e
     rw [decide_eq_false_iff_not]
     intro e'
     exact e (by rw [e'])
    have T0 := hid (kc0_4 ct c0 dt d0)
    clear hcell hcell' hbw hbw' HP HP' HT hp hp' hr hr' ct c0 dt d0 
    generalize dwAt l k = cx1 at *
    generalize dwAt l' k = cx2 at *
    by_cases he : cx1 = cx2
    ·have HS1 := hid (HS.out he)
     rw [decide_eq_true he] at HC
     clear he HS HF
     go_wp2_with fail
     go_region_held3 (fun v => v.cell? ⟨b, off + k * 2, none⟩ = some (.int .i64 cx1.1) ∧ v.cell? ⟨b, off + k * 2 + 1, none⟩ = some (.slice ap np cp) ∧ v.cell? ⟨b', off' + k * 2, none⟩ = some (.int .i64 cx2.1) ∧ v.cell? ⟨b', off' + k * 2 + 1, none⟩ = some (.slice ap' np' cp') ∧ KC wr v [(⟨b, off + k * 2, none⟩, .int .i64 cx1.1), (⟨b, off + k * 2 + 1, none⟩, .slice ap np cp), (⟨b', off' + k * 2, none⟩, .int .i64 cx2.1), (⟨b', off' + k * 2 + 1, none⟩, .slice ap' np' cp')])
      (first | assumption | exact kc4 (T0.out.call (below_drew _)) | exact kc4c hbC (by assumption))
      (first | (go_at_call 81; refine (HC.out _ (KC.bel (by first | exact (by assumption : _ ∧ _ ∧ _ ∧ _ ∧ _).2.2.2.2))).mono ?_; rintro e w' ⟨rfl, hbC⟩))
     all_goals (rename_i hS; have HB1 := hid (Below.then' HB.out hS.2.2.2.2.bel (Nat.le_refl _)); clear hS; go_wp2)
     go_roundw
     case rel => exact ⟨k + 1, by omega, by go_num, HB1.out, HS1.out⟩
     case measure => simp [intOf]; omega
    ·have HF1 := hid (HF.out he)
     rw [decide_eq_false he] at HC
     clear he HS HF
     go_wp2_with fail
     go_region_held3 (fun v => v.cell? ⟨b, off + k * 2, none⟩ = some (.int .i64 cx1.1) ∧ v.cell? ⟨b, off + k * 2 + 1, none⟩ = some (.slice ap np cp) ∧ v.cell? ⟨b', off' + k * 2, none⟩ = some (.int .i64 cx2.1) ∧ v.cell? ⟨b', off' + k * 2 + 1, none⟩ = some (.slice ap' np' cp') ∧ KC wr v [(⟨b, off + k * 2, none⟩, .int .i64 cx1.1), (⟨b, off + k * 2 + 1, none⟩, .slice ap np cp), (⟨b', off' + k * 2, none⟩, .int .i64 cx2.1), (⟨b', off' + k * 2 + 1, none⟩, .slice ap' np' cp')])
      (first | assumption | exact kc4 (T0.out.call (below_drew _)) | exact kc4c hbC (by assumption))
      (first | (go_at_call 81; refine (HC.out _ (KC.bel (by first | exact (by assumption : _ ∧ _ ∧ _ ∧ _ ∧ _).2.2.2.2))).mono ?_; rintro e w' ⟨rfl, hbC⟩))
     all_goals (rename_i hS; have HB1 := hid (Below.then' HB.out hS.2.2.2.2.bel (Nat.le_refl _)); clear hS; go_wp2)
     go_ret
     exact ⟨by rw [HF1.out]; rfl, HB1.out⟩
   ·have HF : Hid (decide (l = l') = true) := by
     show decide (l = l') = true
     have hk' : k = n := by omega
     have e := HT.out
     have e1 : l.length ≤ k := by rw [← HN.out]; omega
     have e2 : l'.length ≤ k := by rw [← HN'.out]; omega
     rw [List.take_of_length_le e1, List.take_of_length_le e2] at e
     simp [e]
    clear HT
    go_wp2
    go_ret
    exact ⟨by rw [HF.out]; rfl, HB.out⟩
 ·have hz : ((n : Int) != (n' : Int)) = true := by simp; omega
  have HF : Hid (decide (l = l') = false) := by
   show decide (l = l') = false
   rw [decide_eq_false_iff_not]
   intro e
   exact hne (by rw [HN.out, HN'.out, e])
  clear hne
  go_enter Tryz.func35, Tryz.ntmps35
  go_wp2
  go_ret
  exact ⟨by rw [HF.out]; rfl, Below.refl _ _⟩
set_option maxHeartbeats 2000000 in
theorem eqDisk_any (S S' : Nat → Prop) (sa : Option Addr) (sn sc : Nat) (da : Option Addr) (dn dc : Nat) (d : DK) (sa' : Option Addr) (sn' sc' : Nat) (da' : Option Addr) (dn' dc' : Nat) (d' : DK) (w : World) (h : Dk w S sa sn sc da dn dc d) (h' : Dk w S' sa' sn' sc' da' dn' dc' d') (hs : smallD d) (hs' : smallD d') :
  Calls Tryz.prog 11 #[.agg #[.slice sa sn sc, .slice da dn dc], .agg #[.slice sa' sn' sc', .slice da' dn' dc']] w fun e w' => e = .returned (.bool (decide (d = d'))) ∧ Below w.heap.size w w' := by
 have H0 := hid h
 have H0' := hid h'
 have HS := hid hs
 have HS' := hid hs'
 clear h h' hs hs'
 have HB0 : Hid (Below w.heap.size w ((w.alloc (.cells #[.slice sa sn sc, .slice da dn dc] 30)).alloc (.cells #[.slice sa' sn' sc', .slice da' dn' dc'] 30))) := below_new (below_new (Below.refl _ _))
 have KA : Hid (Bk ((w.alloc (.cells #[.slice sa sn sc, .slice da dn dc] 30)).alloc (.cells #[.slice sa' sn' sc', .slice da' dn' dc'] 30)) w.heap.size 30 [.slice sa sn sc, .slice da dn dc]) := (Bk.new w 30 [.slice sa sn sc, .slice da dn dc]).alloc _
 have KB : Hid (Bk ((w.alloc (.cells #[.slice sa sn sc, .slice da dn dc] 30)).alloc (.cells #[.slice sa' sn' sc', .slice da' dn' dc'] 30)) (w.heap.size + 1) 30 [.slice sa' sn' sc', .slice da' dn' dc']) := by
  have := Bk.new (w.alloc (.cells #[.slice sa sn sc, .slice da dn dc] 30)) 30 [.slice sa' sn' sc', .slice da' dn' dc']
  show Bk _ _ _ _
  simpa using this
 go_enter Tryz.func11, Tryz.ntmps11
 go_wp2_with fail
 refine (eqSheetS_at S S' sa sa' sn sn' sc sc' d.sh d'.sh _ (H0.out.hs.below HB0.out) (H0'.out.hs.below HB0.out) HS.out.1 HS'.out.1).mono ?_
 generalize (w.alloc (.cells #[.slice sa sn sc, .slice da dn dc] 30)).alloc (.cells #[.slice sa' sn' sc', .slice da' dn' dc'] 30) = W at *
 rintro e w1 ⟨rfl, hb1⟩
 have HB1 := hid (HB0.out.trans (hb1.mono HB0.out.size))
 have KA1 := hid (KA.out.below hb1)
 have KB1 := hid (KB.out.below hb1)
 clear hb1 HB0 KA KB
 by_cases h1 : d.sh = d'.sh
 ·rw [decide_eq_true h1]
  have HH1 := hid h1
  clear h1
  have c0 := KA1.out.cell (j := 1) rfl
  have d0 := KB1.out.cell (j := 1) rfl
  go_wp2_with fail
  refine (eqWriteS_at S S' da da' dn dn' dc dc' d.dw d'.dw _ (H0.out.hd.below HB1.out) (H0'.out.hd.below HB1.out) HS.out.2 HS'.out.2).mono ?_
  rintro e w2 ⟨rfl, hb2⟩
  have HB2 := hid (HB1.out.trans (hb2.mono HB1.out.size))
  clear hb2 HB1 KA1 KB1 c0 d0
  by_cases h2 : d.dw = d'.dw
  ·rw [decide_eq_true h2]
   have HF : Hid (decide (d = d') = true) := by
    show _ = _
    rw [decide_eq_true_eq]
    have e1 := HH1.out
    cases d; cases d'; simp_all
   clear h2
   go_wp2
   go_ret
   exact ⟨by rw [HF.out]; rfl, HB2.out⟩
  ·rw [decide_eq_false h2]
   have HF : Hid (decide (d = d') = false) := by
    show _ = _
    rw [decide_eq_false_iff_not]
    rintro rfl
    exact h2 rfl
   clear h2
   go_wp2
   go_ret
   exact ⟨by rw [HF.out]; rfl, HB2.out⟩
 ·rw [decide_eq_false h1]
  have HF : Hid (decide (d = d') = false) := by
   show _ = _
   rw [decide_eq_false_iff_not]
   rintro rfl
   exact h1 rfl
  clear h1
  go_wp2
  go_ret
  exact ⟨by rw [HF.out]; rfl, HB1.out⟩
open Go.RowKit
set_option linter.unusedVariables false
theorem shtOk_iff (l : List Int) : shtOk l = true ↔ l.length = 0 ∨ l.length = 512 := by simp only [shtOk, Bool.or_eq_true, decide_eq_true_eq]
theorem wrtOk_iff (n : Nat) (p : DW) : wrtOk n p = true ↔ 0 ≤ p.1 ∧ p.1 < (n : Int) ∧ p.2.length = 512 := by simp only [wrtOk, Bool.and_eq_true, decide_eq_true_eq, and_assoc]
theorem dkOk_iff (d : DK) : dkOk d = true ↔ 2 ≤ d.sh.length ∧ d.sh.length ≤ 400 ∧ d.dw.length ≤ 500 ∧ (∀ i, i < d.sh.length → shtOk (shAt d.sh i) = true) ∧ ∀ i, i < d.dw.length → wrtOk d.sh.length (dwAt d.dw i) = true := by
 simp only [dkOk, Bool.and_eq_true, decide_eq_true_eq, and_assoc, allD_at (l := d.sh) (z := []), allD_at (l := d.dw) (z := ((0, []) : DW)), shAt, dwAt]
theorem dk_no {d : DK} (h : ¬ (2 ≤ d.sh.length ∧ d.sh.length ≤ 400 ∧ d.dw.length ≤ 500)) : dkOk d = false := by
 rw [Bool.eq_false_iff]
 intro e
 have := (dkOk_iff d).1 e
 exact h ⟨this.1, this.2.1, this.2.2.1⟩
theorem dk_no_sheet {d : DK} {i : Nat} (hi : i < d.sh.length) (h : ¬ shtOk (shAt d.sh i) = true) : dkOk d = false := by
 rw [Bool.eq_false_iff]
 intro e
 exact h (((dkOk_iff d).1 e).2.2.2.1 i hi)
theorem dk_no_write {d : DK} {i : Nat} (hi : i < d.dw.length) (h : ¬ wrtOk d.sh.length (dwAt d.dw i) = true) : dkOk d = false := by
 rw [Bool.eq_false_iff]
 intro e
 exact h (((dkOk_iff d).1 e).2.2.2.2 i hi)
set_option maxHeartbeats 4000000 in
theorem specDiskOk_any (S : Nat → Prop) (sa : Option Addr) (sn sc : Nat) (da : Option Addr) (dn dc : Nat) (d : DK) (w : World) (h : Dk w S sa sn sc da dn dc d) :
  Calls Tryz.prog 23 #[.agg #[.slice sa sn sc, .slice da dn dc]] w fun e w' => e = .returned (.bool (dkOk d)) ∧ Below w.heap.size w w' := by
 have HS := hid h.hs
 have HD := hid h.hd
 obtain ⟨ns, hsc, hsc'⟩ := h.hs.len
 obtain ⟨nd, hdc, hdc'⟩ := h.hd.len
 have HNS := hid ns
 have HND := hid nd
 have HB0 : Hid (Below w.heap.size w (w.alloc (.cells #[.slice sa sn sc, .slice da dn dc] 30))) := below_new (Below.refl _ _)
 have KP : Hid (Bk (w.alloc (.cells #[.slice sa sn sc, .slice da dn dc] 30)) w.heap.size 30 [.slice sa sn sc, .slice da dn dc]) := Bk.new w 30 [.slice sa sn sc, .slice da dn dc]
 clear h
 have c0 := KP.out.cell (j := 0) rfl
 have c1 := KP.out.cell (j := 1) rfl
 by_cases q1 : sn < 2
 ·have q1' : (sn : Int) < 2 := by omega
  have HF := hid (dk_no (d := d) (by omega))
  clear ns nd
  go_enter Tryz.func23, Tryz.ntmps23
  go_wp2
  go_ret
  exact ⟨by rw [HF.out]; rfl, HB0.out⟩
 ·have q1' : ¬ (sn : Int) < 2 := by omega
  by_cases q2 : 400 < sn
  ·have q2' : (400 : Int) < (sn : Int) := by omega
   have HF := hid (dk_no (d := d) (by omega))
   clear ns nd
   go_enter Tryz.func23, Tryz.ntmps23
   go_wp2
   go_ret
   exact ⟨by rw [HF.out]; rfl, HB0.out⟩
  ·have q2' : ¬ (400 : Int) < (sn : Int) := by omega
   by_cases q3 : 500 < dn
   ·have q3' : (500 : Int) < (dn : Int) := by omega
    have HF := hid (dk_no (d := d) (by omega))
    clear ns nd
    go_enter Tryz.func23, Tryz.ntmps23
    go_wp2
    go_ret
    exact ⟨by rw [HF.out]; rfl, HB0.out⟩
   ·have q3' : ¬ (500 : Int) < (dn : Int) := by omega
    have HQ : Hid (2 ≤ d.sh.length ∧ d.sh.length ≤ 400 ∧ d.dw.length ≤ 500) := ⟨by omega, by omega, by omega⟩
    clear ns nd
    go_enter Tryz.func23, Tryz.ntmps23
    go_wp2_with fail
    clear c0 c1
    go_loopw [26] (fun i wr => ∃ k : Nat, k ≤ sn ∧ i = .int .i64 k ∧ Hid (∀ i, i < k → shtOk (shAt d.sh i) = true) ∧ Hid (Bk wr w.heap.size 30 [.slice sa sn sc, .slice da dn dc]) ∧ Hid (Below w.heap.size w wr)) (fun i _ => sn - (intOf i).toNat)
    case atStart => exact ⟨0, Nat.zero_le _, rfl, fun i hi => absurd hi (Nat.not_lt_zero _), KP.out, HB0.out⟩
    case round =>
     obtain ⟨k, hk, rfl, HT, HK, HB⟩ := hrel
     clear KP HB0
     by_cases hlt : k < sn
     ·have hlt' : (k : Int) < (sn : Int) := by omega
      obtain ⟨b, off, rfl, _, hbw, hcell⟩ := (HS.out.below HB.out).at (by omega)
      obtain ⟨ap, np, cp, m0, hp⟩ := hcell k hlt
      have l0 := hp.len.1
      have hkl : k < d.sh.length := by rw [← HNS.out]; exact hlt
      have HB1 : Hid (Below w.heap.size w (wr.alloc (.cells #[.slice ap np cp] 102))) := HB.out.alloc HB.out.size _
      have HK1 := hid (HK.out.alloc (.cells #[.slice ap np cp] 102))
      clear hcell hbw hp
      by_cases n0 : np = 0
      ·have HT1 : Hid (∀ i, i < k + 1 → shtOk (shAt d.sh i) = true) := by
        intro i hi
        by_cases e : i = k
        ·subst e; exact (shtOk_iff _).2 (by omega)
        ·exact HT.out i (by omega)
       have n0' : ((np : Int) != 0) = false := by simp; omega
       subst n0
       clear l0 HT
       go_wp2
       go_roundw
       case rel => exact ⟨k + 1, by omega, by go_num, HT1.out, HK1.out, HB1.out⟩
       case measure => simp [intOf]; omega
      ·have n0' : ((np : Int) != 0) = true := by simp; omega
       have n0'' : ¬ (np : Int) = 0 := by omega
       by_cases n5 : np = 512
       ·have HT1 : Hid (∀ i, i < k + 1 → shtOk (shAt d.sh i) = true) := by
         intro i hi
         by_cases e : i = k
         ·subst e; exact (shtOk_iff _).2 (by omega)
         ·exact HT.out i (by omega)
        subst n5
        clear l0 HT
        go_wp2
        go_roundw
        case rel => exact ⟨k + 1, by omega, by go_num, HT1.out, HK1.out, HB1.out⟩
        case measure => simp [intOf]; omega
       ·have n5' : ((np : Int) != 512) = true := by simp; omega
        have n5'' : ¬ (np : Int) = 512 := by omega
        have HF := hid (dk_no_sheet hkl (fun e => by have := (shtOk_iff _).1 e; omega))
        clear l0 hkl HT
        go_wp2
        go_ret
        exact ⟨by rw [HF.out]; rfl, HB1.out⟩
     ·have hkn : k = sn := by omega
      have HT0 : Hid (∀ i, i < d.sh.length → shtOk (shAt d.sh i) = true) := by rw [← HNS.out, ← hkn]; exact HT.out
      clear HT hkn
      have c1 := HK.out.cell (j := 1) rfl
      go_wp2_with fail
      clear c1
      go_loopw [44] (fun i wr => ∃ k : Nat, k ≤ dn ∧ i = .int .i64 k ∧ Hid (∀ i, i < k → wrtOk d.sh.length (dwAt d.dw i) = true) ∧ Hid (Bk wr w.heap.size 30 [.slice sa sn sc, .slice da dn dc]) ∧ Hid (Below w.heap.size w wr)) (fun i _ => dn - (intOf i).toNat)
      case atStart => exact ⟨0, Nat.zero_le _, rfl, fun i hi => absurd hi (Nat.not_lt_zero _), HK.out, HB.out⟩
      case round =>
       clear HK HB
       obtain ⟨j, hj, rfl, HT, HK, HB⟩ := hrel
       by_cases hlt : j < dn
       ·have hlt' : (j : Int) < (dn : Int) := by omega
        obtain ⟨b, off, rfl, _, hbw, hcell⟩ := (HD.out.below HB.out).at (by omega)
        obtain ⟨ap, np, cp, mt, m0, hp⟩ := hcell j hlt
        have l0 := hp.len.1
        have hkl : j < d.dw.length := by rw [← HND.out]; exact hlt
        generalize htt : (dwAt d.dw j).1 = tt at *
        have HB1 : Hid (Below w.heap.size w (wr.alloc (.cells #[.int .i64 tt, .slice ap np cp] 103))) := HB.out.alloc HB.out.size _
        have HK1 := hid (HK.out.alloc (.cells #[.int .i64 tt, .slice ap np cp] 103))
        have c0 := HK1.out.cell (j := 0) rfl
        have HX : Hid (wrtOk d.sh.length (dwAt d.dw j) = true ↔ 0 ≤ tt ∧ tt < (sn : Int) ∧ np = 512) := by
         show _ ↔ _
         rw [wrtOk_iff, htt, ← l0, HNS.out]
        clear hcell hbw hp htt l0
        by_cases t0 : tt < 0
        ·have HF := hid (dk_no_write hkl (fun e => by have := HX.out.1 e; omega))
         clear hkl HT HX
         go_wp2
         go_ret
         exact ⟨by rw [HF.out]; rfl, HB1.out⟩
        ·by_cases t1 : (sn : Int) ≤ tt
         ·have HF := hid (dk_no_write hkl (fun e => by have := HX.out.1 e; omega))
          clear hkl HT HX
          go_wp2
          go_ret
          exact ⟨by rw [HF.out]; rfl, HB1.out⟩
         ·by_cases n5 : np = 512
          ·have HT1 : Hid (∀ i, i < j + 1 → wrtOk d.sh.length (dwAt d.dw i) = true) := by
            intro i hi
            by_cases e : i = j
            ·subst e; exact HX.out.2 ⟨by omega, by omega, n5⟩
            ·exact HT.out i (by omega)
           subst n5
           clear HT HX hkl
           go_wp2
           go_roundw
           case rel => exact ⟨j + 1, by omega, by go_num, HT1.out, HK1.out, HB1.out⟩
           case measure => simp [intOf]; omega
          ·have n5' : ((np : Int) != 512) = true := by simp; omega
           have n5'' : ¬ (np : Int) = 512 := by omega
           have HF := hid (dk_no_write hkl (fun e => by have := HX.out.1 e; omega))
           clear hkl HT HX
           go_wp2
           go_ret
           exact ⟨by rw [HF.out]; rfl, HB1.out⟩
       ·have hjn : j = dn := by omega
        have HF : Hid (dkOk d = true) := (dkOk_iff d).2 ⟨HQ.out.1, HQ.out.2.1, HQ.out.2.2, HT0.out, by rw [← HND.out, ← hjn]; exact HT.out⟩
        clear HT HT0 hjn
        go_wp2
        go_ret
        exact ⟨by rw [HF.out]; rfl, HB.out⟩
def szOk (n : Int) : Bool := decide (2 ≤ n) && decide (n ≤ 400)
set_option maxHeartbeats 1000000 in
theorem sizeOk_any (n : Int) (w : World) : Calls Tryz.prog 95 #[.int .i64 n] w fun e w' => e = .returned (.bool (szOk n)) ∧ w' = w := by
 by_cases q1 : n < 2
 ·have HF : Hid (szOk n = false) := by show _ = _; rw [szOk, decide_eq_false (show ¬ 2 ≤ n by omega)]; rfl
  have q1' : ¬ 2 ≤ n := by omega
  go_enter Tryz.func95, Tryz.ntmps95
  go_wp2
  go_ret
  exact ⟨by rw [HF.out]; rfl, rfl⟩
 ·have q1' : 2 ≤ n := by omega
  by_cases q2 : n ≤ 400
  ·have HF : Hid (szOk n = true) := by show _ = _; rw [szOk, decide_eq_true q1', decide_eq_true q2]; rfl
   go_enter Tryz.func95, Tryz.ntmps95
   go_wp2
   go_ret
   exact ⟨by rw [HF.out]; rfl, rfl⟩
  ·have HF : Hid (szOk n = false) := by show _ = _; rw [szOk, decide_eq_false q2]; simp
   go_enter Tryz.func95, Tryz.ntmps95
   go_wp2
   go_ret
   exact ⟨by rw [HF.out]; rfl, rfl⟩
set_option maxHeartbeats 1000000 in
theorem shtOk_any (a : Option Addr) (n c : Nat) (zs : List Int) (w : World) (h : n = zs.length) (hn : n ≤ 9223372036854775807) :
  Calls Tryz.prog 112 #[.slice a n c] w fun e w' => e = .returned (.bool (shtOk zs)) ∧ w' = w := by
 by_cases h0 : n = 0
 ·have HV : Hid (shtOk zs = true) := (shtOk_iff zs).2 (by omega)
  subst h0
  clear h
  go_enter Tryz.func112, Tryz.ntmps112
  go_wp2
  go_ret
  exact ⟨by rw [HV.out]; rfl, rfl⟩
 ·have h0' : ((n : Int) == 0) = false := by simp; omega
  have h0'' : ¬ (n : Int) = 0 := by omega
  by_cases h5 : n = 512
  ·have HV : Hid (shtOk zs = true) := (shtOk_iff zs).2 (by omega)
   subst h5
   clear h
   go_enter Tryz.func112, Tryz.ntmps112
   go_wp2
   go_ret
   exact ⟨by rw [HV.out]; rfl, rfl⟩
  ·have h5' : ((n : Int) == 512) = false := by simp; omega
   have h5'' : ¬ (n : Int) = 512 := by omega
   have HV : Hid (shtOk zs = false) := by
    show _ = false
    rw [Bool.eq_false_iff]
    intro e
    have := (shtOk_iff zs).1 e
    omega
   clear h
   go_enter Tryz.func112, Tryz.ntmps112
   go_wp2
   go_ret
   exact ⟨by rw [HV.out]; rfl, rfl⟩
set_option maxHeartbeats 1000000 in
theorem writeOk_any (t : Int) (a : Option Addr) (n c : Nat) (zs : List Int) (m : Nat) (w : World) (h : n = zs.length) (hn : n ≤ 9223372036854775807) :
  Calls Tryz.prog 113 #[.agg #[.int .i64 t, .slice a n c], .int .i64 (m : Int)] w fun e w' => e = .returned (.bool (wrtOk m (t, zs))) ∧ Below w.heap.size w w' := by
 have HB0 : Hid (Below w.heap.size w (w.alloc (.cells #[.int .i64 t, .slice a n c] 103))) := below_new (Below.refl _ _)
 have HN := hid h
 clear h
 by_cases q1 : t < 0
 ·have q1' : ¬ 0 ≤ t := by omega
  have HV : Hid (wrtOk m (t, zs) = false) := by
   show _ = false
   rw [Bool.eq_false_iff]
   intro e
   exact q1' ((wrtOk_iff _ _).1 e).1
  go_enter Tryz.func113, Tryz.ntmps113
  go_wp2
  go_ret
  exact ⟨by rw [HV.out]; rfl, HB0.out⟩
 ·have q1' : 0 ≤ t := by omega
  by_cases q2 : t < (m : Int)
  ·by_cases h5 : n = 512
   ·have HV : Hid (wrtOk m (t, zs) = true) := (wrtOk_iff _ _).2 ⟨q1', q2, by rw [← HN.out]; exact h5⟩
    subst h5
    go_enter Tryz.func113, Tryz.ntmps113
    go_wp2
    go_ret
    exact ⟨by rw [HV.out]; rfl, HB0.out⟩
   ·have h5' : ((n : Int) == 512) = false := by simp; omega
    have h5'' : ¬ (n : Int) = 512 := by omega
    have HV : Hid (wrtOk m (t, zs) = false) := by
     show _ = false
     rw [Bool.eq_false_iff]
     intro e
     exact h5 (HN.out.trans ((wrtOk_iff _ _).1 e).2.2)
    go_enter Tryz.func113, Tryz.ntmps113
    go_wp2
    go_ret
    exact ⟨by rw [HV.out]; rfl, HB0.out⟩
  ·have HV : Hid (wrtOk m (t, zs) = false) := by
    show _ = false
    rw [Bool.eq_false_iff]
    intro e
    exact q2 ((wrtOk_iff _ _).1 e).2.1
   go_enter Tryz.func113, Tryz.ntmps113
   go_wp2
   go_ret
   exact ⟨by rw [HV.out]; rfl, HB0.out⟩
set_option maxHeartbeats 4000000 in
theorem implDiskOk_any (S : Nat → Prop) (sa : Option Addr) (sn sc : Nat) (da : Option Addr) (dn dc : Nat) (d : DK) (w : World) (h : Dk w S sa sn sc da dn dc d) :
  Calls Tryz.prog 74 #[.agg #[.slice sa sn sc, .slice da dn dc]] w fun e w' => e = .returned (.bool (dkOk d)) ∧ Below w.heap.size w w' := by
 have HS := hid h.hs
 have HD := hid h.hd
 obtain ⟨ns, hsc, hsc'⟩ := h.hs.len
 obtain ⟨nd, hdc, hdc'⟩ := h.hd.len
 have HNS := hid ns
 have HND := hid nd
 have HB0 : Hid (Below w.heap.size w (w.alloc (.cells #[.slice sa sn sc, .slice da dn dc] 30))) := below_new (Below.refl _ _)
 have KP : Hid (Bk (w.alloc (.cells #[.slice sa sn sc, .slice da dn dc] 30)) w.heap.size 30 [.slice sa sn sc, .slice da dn dc]) := Bk.new w 30 [.slice sa sn sc, .slice da dn dc]
 clear h
 have c0 := KP.out.cell (j := 0) rfl
 have c1 := KP.out.cell (j := 1) rfl
 have HZ : Hid (szOk (sn : Int) = true ↔ 2 ≤ sn ∧ sn ≤ 400) := by
  show _ ↔ _
  simp only [szOk, Bool.and_eq_true, decide_eq_true_eq]
  omega
 clear ns nd
 go_enter Tryz.func74, Tryz.ntmps74
 go_wp2_with fail
 refine (sizeOk_any (sn : Int) _).mono ?_
 rintro e w0 ⟨rfl, rfl⟩
 cases hz : szOk (sn : Int) with
 | false =>
  have HF := hid (dk_no (d := d) (fun e => by have ns := HNS.out; have := HZ.out.2 (by omega); rw [hz] at this; cases this))
  clear hz HZ
  go_wp2
  go_ret
  exact ⟨by rw [HF.out]; rfl, HB0.out⟩
 | true =>
  have hz2 := HZ.out.1 hz
  by_cases q3 : 500 < dn
  ·have q3' : (500 : Int) < (dn : Int) := by omega
   have HF := hid (dk_no (d := d) (by have nd := HND.out; omega))
   clear hz HZ hz2
   go_wp2
   go_ret
   exact ⟨by rw [HF.out]; rfl, HB0.out⟩
  ·have q3' : ¬ (500 : Int) < (dn : Int) := by omega
   have HQ : Hid (2 ≤ d.sh.length ∧ d.sh.length ≤ 400 ∧ d.dw.length ≤ 500) := by have ns := HNS.out; have nd := HND.out; exact ⟨by omega, by omega, by omega⟩
   clear hz HZ hz2
   go_wp2_with fail
   clear c0 c1
   go_loopw [23] (fun i wr => ∃ k : Nat, k ≤ sn ∧ i = .int .i64 k ∧ Hid (∀ i, i < k → shtOk (shAt d.sh i) = true) ∧ Hid (Bk wr w.heap.size 30 [.slice sa sn sc, .slice da dn dc]) ∧ Hid (Below w.heap.size w wr)) (fun i _ => sn - (intOf i).toNat)
   case atStart => exact ⟨0, Nat.zero_le _, rfl, fun i hi => absurd hi (Nat.not_lt_zero _), KP.out, HB0.out⟩
   case round =>
    obtain ⟨k, hk, rfl, HT, HK, HB⟩ := hrel
    clear KP HB0
    by_cases hlt : k < sn
    ·have hlt' : (k : Int) < (sn : Int) := by omega
     obtain ⟨b, off, rfl, _, hbw, hcell⟩ := (HS.out.below HB.out).at (by omega)
     obtain ⟨ap, np, cp, m0, hp⟩ := hcell k hlt
     have hkl : k < d.sh.length := by rw [← HNS.out]; exact hlt
     have HB1 : Hid (Below w.heap.size w (wr.alloc (.cells #[.slice ap np cp] 102))) := HB.out.alloc HB.out.size _
     have HK1 := hid (HK.out.alloc (.cells #[.slice ap np cp] 102))
     have HC := hid (shtOk_any ap np cp (shAt d.sh k) (wr.alloc (.cells #[.slice ap np cp] 102)) hp.len.1 (by have := hp.len.2; omega))
     have HT1 : Hid (shtOk (shAt d.sh k) = true → ∀ i, i < k + 1 → shtOk (shAt d.sh i) = true) := by
      intro hh i hi
      by_cases e : i = k
      ·subst e; exact hh
      ·exact HT.out i (by omega)
     have HF : Hid (shtOk (shAt d.sh k) = false → dkOk d = false) := fun e => dk_no_sheet hkl (by rw [e]; exact Bool.false_ne_true)
     clear hcell hbw hp hkl HT
     generalize shtOk (shAt d.sh k) = Z at *
     go_wp2_with fail
     refine HC.out.mono ?_
     rintro e w1 ⟨rfl, rfl⟩
     cases Z with
     | true =>
      have HT2 := hid (HT1.out rfl)
      clear HT1 HF
      go_wp2
      go_roundw
      case rel => exact ⟨k + 1, by omega, by go_num, HT2.out, HK1.out, HB1.out⟩
      case measure => simp [intOf]; omega
     | false =>
      have HF2 := hid (HF.out rfl)
      clear HT1 HF
      go_wp2
      go_ret
      exact ⟨by rw [HF2.out]; rfl, HB1.out⟩
    ·have hkn : k = sn := by omega
     have HT0 : Hid (∀ i, i < d.sh.length → shtOk (shAt d.sh i) = true) := by rw [← HNS.out, ← hkn]; exact HT.out
     clear HT hkn
     have c1 := HK.out.cell (j := 1) rfl
     go_wp2_with fail
     clear c1
     go_loopw [35] (fun i wr => ∃ k : Nat, k ≤ dn ∧ i = .int .i64 k ∧ Hid (∀ i, i < k → wrtOk d.sh.length (dwAt d.dw i) = true) ∧ Hid (Below w.heap.size w wr)) (fun i _ => dn - (intOf i).toNat)
     case atStart => exact ⟨0, Nat.zero_le _, rfl, fun i hi => absurd hi (Nat.not_lt_zero _), HB.out⟩
     case round =>
      clear HK HB
      obtain ⟨j, hj, rfl, HT, HB⟩ := hrel
      by_cases hlt : j < dn
      ·have hlt' : (j : Int) < (dn : Int) := by omega
       obtain ⟨b, off, rfl, _, hbw, hcell⟩ := (HD.out.below HB.out).at (by omega)
       obtain ⟨ap, np, cp, mt, m0, hp⟩ := hcell j hlt
       have hkl : j < d.dw.length := by rw [← HND.out]; exact hlt
       generalize htt : (dwAt d.dw j).1 = tt at *
       have HB1 : Hid (Below w.heap.size w (wr.alloc (.cells #[.int .i64 tt, .slice ap np cp] 103))) := HB.out.alloc HB.out.size _
       have HC := hid (writeOk_any tt ap np cp (dwAt d.dw j).2 sn (wr.alloc (.cells #[.int .i64 tt, .slice ap np cp] 103)) hp.len.1 (by have := hp.len.2; omega))
       have hpe : (tt, (dwAt d.dw j).2) = dwAt d.dw j := by rw [← htt]
       rw [hpe, HNS.out] at HC
       have HT1 : Hid (wrtOk d.sh.length (dwAt d.dw j) = true → ∀ i, i < j + 1 → wrtOk d.sh.length (dwAt d.dw i) = true) := by
        intro hh i hi
        by_cases e : i = j
        ·subst e; exact hh
        ·exact HT.out i (by omega)
       have HF : Hid (wrtOk d.sh.length (dwAt d.dw j) = false → dkOk d = false) := fun e => dk_no_write hkl (by rw [e]; exact Bool.false_ne_true)
       rw [← HNS.out] at HC
       clear hcell hbw hp htt hpe HT hkl
       rw [HNS.out] at HC
       generalize wrtOk d.sh.length (dwAt d.dw j) = Z at *
       rw [← HNS.out] at HC
       go_wp2_with fail
       refine HC.out.mono ?_
       rintro e w1 ⟨rfl, hb1⟩
       have HB2 := hid (HB1.out.trans (hb1.mono HB1.out.size))
       clear hb1
       cases Z with
       | true =>
        have HT2 := hid (HT1.out rfl)
        clear HT1 HF
        go_wp2
        go_roundw
        case rel => exact ⟨j + 1, by omega, by go_num, HT2.out, HB2.out⟩
        case measure => simp [intOf]; omega
       | false =>
        have HF2 := hid (HF.out rfl)
        clear HT1 HF
        go_wp2
        go_ret
        exact ⟨by rw [HF2.out]; rfl, HB2.out⟩
      ·have hjn : j = dn := by omega
       have HF : Hid (dkOk d = true) := (dkOk_iff d).2 ⟨HQ.out.1, HQ.out.2.1, HQ.out.2.2, HT0.out, by rw [← HND.out, ← hjn]; exact HT.out⟩
       clear HT HT0 hjn
       go_wp2
       go_ret
       exact ⟨by rw [HF.out]; rfl, HB.out⟩
open Go.RowKit
set_option linter.unusedVariables false
theorem bt5 {u v w : World} (h : Below u.heap.size u v) (k : Below v.heap.size v w) : Below u.heap.size u w := h.trans (k.mono h.size)
structure DX (w v : World) (sa : Option Addr) (sn sc : Nat) (da : Option Addr) (dn dc : Nat) (d : DK) : Prop where
 bel : Below w.heap.size w v
 kA : Bk v w.heap.size 25 [.slice sa sn sc, .slice da dn dc]
 hA : Dk v (fun b => b < w.heap.size) sa sn sc da dn dc d
theorem DX.below {w v v' : World} {sa : Option Addr} {sn sc : Nat} {da : Option Addr} {dn dc : Nat} {d : DK} (h : DX w v sa sn sc da dn dc d) (hb : Below v.heap.size v v') : DX w v' sa sn sc da dn dc d := ⟨bt5 h.bel hb, h.kA.below hb, h.hA.below hb⟩
theorem DX.only {w v v' : World} {sa : Option Addr} {sn sc : Nat} {da : Option Addr} {dn dc : Nat} {d : DK} (h : DX w v sa sn sc da dn dc d) {R : Nat → Prop} (ho : Only R v v') (hR : ∀ b, R b → w.heap.size < b) : DX w v' sa sn sc da dn dc d :=
 ⟨h.bel.trans (ho.below h.bel.size (fun b hb hr => by have := hR b hr; omega)), h.kA.to ho (fun hr => by have := hR _ hr; omega), h.hA.to ho (fun b hb _ hr => by have := hR b hr; omega)⟩
theorem DX.start {w : World} {sa : Option Addr} {sn sc : Nat} {da : Option Addr} {dn dc : Nat} {d : DK} (h : Dk w (fun _ => True) sa sn sc da dn dc d) : DX w (w.alloc (.cells #[.slice sa sn sc, .slice da dn dc] 25)) sa sn sc da dn dc d := by
 have hb := below_new (o := .cells #[.slice sa sn sc, .slice da dn dc] 25) (w := w) (Below.refl _ _)
 exact ⟨hb, Bk.new w _ [_, _], (h.mono (R := fun b => b < w.heap.size) (fun b _ hb => hb)).below hb⟩
theorem DX.cells {w v : World} {sa : Option Addr} {sn sc : Nat} {da : Option Addr} {dn dc : Nat} {d : DK} (h : DX w v sa sn sc da dn dc d) : v.cell? ⟨w.heap.size, 0, none⟩ = some (.slice sa sn sc) ∧ v.cell? ⟨w.heap.size, 1, none⟩ = some (.slice da dn dc) := ⟨h.kA.cell (j := 0) rfl, h.kA.cell (j := 1) rfl⟩
def encF : Nat → Int → List Int
 | 0, n => [n]
 | f + 1, n => if 128 ≤ n then (128 + n % 128) :: encF f (n / 128) else [n]
def enc (n : Int) : List Int := encF 6 n
def bnd : Nat → Int
 | 0 => 128
 | f + 1 => 128 * bnd f
theorem bnd_pos (f : Nat) : 128 ≤ bnd f := by
 induction f with
 | zero => simp [bnd]
 | succ f ih => simp only [bnd]; omega
theorem encF_small (f : Nat) (n : Int) (h : n < 128) : encF f n = [n] := by
 cases f with
 | zero => rfl
 | succ f => simp only [encF]; rw [if_neg (by omega)]
theorem encF_big (f : Nat) (n : Int) (h : 128 ≤ n) : encF (f + 1) n = (128 + n % 128) :: encF f (n / 128) := by
 simp only [encF]; rw [if_pos h]
theorem bnd_down (f : Nat) (n : Int) (h : n < bnd (f + 1)) : n / 128 < bnd f := by
 simp only [bnd] at h
 omega
theorem encF_byte (f : Nat) : ∀ n : Int, 0 ≤ n → n < bnd f → ∀ z ∈ encF f n, 0 ≤ z ∧ z ≤ 255 := by
 induction f with
 | zero =>
  intro n h0 h1 z hz
  simp [encF] at hz
  simp [bnd] at h1
  omega
 | succ f ih =>
  intro n h0 h1 z hz
  by_cases h : 128 ≤ n
  ·rw [encF_big f n h] at hz
   rcases List.mem_cons.1 hz with e | e
   ·omega
   ·exact ih (n / 128) (by omega) (bnd_down f n h1) z e
  ·rw [encF_small _ n (by omega)] at hz
   simp at hz
   omega
theorem encF_len (f : Nat) : ∀ n : Int, 1 ≤ (encF f n).length ∧ (encF f n).length ≤ f + 1 := by
 induction f with
 | zero => intro n; simp [encF]
 | succ f ih =>
  intro n
  by_cases h : 128 ≤ n
  ·rw [encF_big f n h]
   have := ih (n / 128)
   simp; omega
  ·rw [encF_small _ n (by omega)]
   simp
theorem enc_byte (n : Int) (h0 : 0 ≤ n) (h1 : n ≤ 1099511627775) : ∀ z ∈ enc n, 0 ≤ z ∧ z ≤ 255 := encF_byte 6 n h0 (by simp [bnd]; omega)
theorem enc_len (n : Int) : 1 ≤ (enc n).length ∧ (enc n).length ≤ 7 := encF_len 6 n
theorem byte_at {zs : List Int} (h : ∀ z ∈ zs, 0 ≤ z ∧ z ≤ 255) (i : Nat) : 0 ≤ zs[i]?.getD 0 ∧ zs[i]?.getD 0 ≤ 255 := by
 by_cases hi : i < zs.length
 ·have := h zs[i] (List.getElem_mem hi)
  simpa [hi] using this
 ·have : zs[i]? = none := List.getElem?_eq_none (by omega)
  simp [this]
theorem at_byte {zs : List Int} (h : ∀ i : Nat, 0 ≤ zs[i]?.getD 0 ∧ zs[i]?.getD 0 ≤ 255) : ∀ z ∈ zs, 0 ≤ z ∧ z ≤ 255 := by
 intro z hz
 obtain ⟨i, hi, rfl⟩ := List.getElem_of_mem hz
 have := h i
 simpa [hi] using this
theorem byte_append {xs ys : List Int} (hx : ∀ z ∈ xs, 0 ≤ z ∧ z ≤ 255) (hy : ∀ z ∈ ys, 0 ≤ z ∧ z ≤ 255) : ∀ z ∈ xs ++ ys, 0 ≤ z ∧ z ≤ 255 := by
 intro z hz
 rcases List.mem_append.1 hz with h | h
 ·exact hx z h
 ·exact hy z h
def pv (zs : List Int) (n : Int) : Option (List Int) := if (0 ≤ n ∧ n ≤ 1099511627775) ∧ (zs ++ enc n).length ≤ 4096 then some (zs ++ enc n) else none
theorem pv_bad (zs : List Int) (n : Int) (h : n < 0 ∨ 1099511627775 < n) : pv zs n = none := by
 unfold pv; rw [if_neg (by omega)]
theorem pv_long (zs : List Int) (n : Int) (h : 4096 < (zs ++ enc n).length) : pv zs n = none := by
 unfold pv; rw [if_neg (by omega)]
theorem pv_ok (zs : List Int) (n : Int) (h0 : 0 ≤ n) (h1 : n ≤ 1099511627775) (h : (zs ++ enc n).length ≤ 4096) : pv zs n = some (zs ++ enc n) := by
 unfold pv; rw [if_pos ⟨⟨h0, h1⟩, h⟩]
def uOf : Nat → Int
 | 0 => 4398046511104
 | 1 => 34359738368
 | 2 => 268435456
 | 3 => 2097152
 | 4 => 16384
 | 5 => 128
 | _ => 1
theorem uOf_next (f : Nat) (h : f < 6) : uOf (f + 1) * 128 = uOf f := by
 match f, h with
 | 0, _ => rfl
 | 1, _ => rfl
 | 2, _ => rfl
 | 3, _ => rfl
 | 4, _ => rfl
 | 5, _ => rfl
theorem uOf_le (f : Nat) (h : 0 < f) : 1 ≤ uOf f ∧ uOf f ≤ 34359738368 := by
 match f, h with
 | 1, _ => simp [uOf]
 | 2, _ => simp [uOf]
 | 3, _ => simp [uOf]
 | 4, _ => simp [uOf]
 | 5, _ => simp [uOf]
 | n + 6, _ => simp [uOf]
theorem uOf_one (f : Nat) (h : 0 < f) (h6 : f ≤ 6) : 1 < uOf f ↔ f < 6 := by
 match f, h, h6 with
 | 1, _, _ => simp [uOf]
 | 2, _, _ => simp [uOf]
 | 3, _, _ => simp [uOf]
 | 4, _, _ => simp [uOf]
 | 5, _, _ => simp [uOf]
 | 6, _, _ => simp [uOf]
def gvGo : Nat → List Int → Nat → Int → Int → Int × Int
 | 0, _, _, _, _ => (0, -1)
 | f + 1, zs, k, n, u =>
  if k < zs.length then
   if 128 ≤ zs[k]?.getD 0 then gvGo f zs (k + 1) (n + (zs[k]?.getD 0 - 128) * u) (u * 128)
   else if 1099511627775 < n + zs[k]?.getD 0 * u ∨ (zs[k]?.getD 0 = 0 ∧ 1 < u) then (0, -1) else (n + zs[k]?.getD 0 * u, (k : Int) + 1)
  else (0, -1)
def gv (zs : List Int) (at' : Int) : Int × Int := if at' < 0 then (0, -1) else gvGo 6 zs at'.toNat 0 1
theorem gvGo_end (f : Nat) (zs : List Int) (k : Nat) (n u : Int) (h : zs.length ≤ k) : gvGo f zs k n u = (0, -1) := by
 cases f with
 | zero => rfl
 | succ f => simp only [gvGo]; rw [if_neg (by omega)]
theorem gvGo_more (f : Nat) (zs : List Int) (k : Nat) (n u : Int) (h : k < zs.length) (hd : 128 ≤ zs[k]?.getD 0) : gvGo (f + 1) zs k n u = gvGo f zs (k + 1) (n + (zs[k]?.getD 0 - 128) * u) (u * 128) := by
 simp only [gvGo]; rw [if_pos h, if_pos hd]
theorem gvGo_bad (f : Nat) (zs : List Int) (k : Nat) (n u : Int) (h : k < zs.length) (hd : zs[k]?.getD 0 < 128) (hb : 1099511627775 < n + zs[k]?.getD 0 * u ∨ (zs[k]?.getD 0 = 0 ∧ 1 < u)) : gvGo (f + 1) zs k n u = (0, -1) := by
 simp only [gvGo]; rw [if_pos h, if_neg (by omega), if_pos hb]
theorem gvGo_good (f : Nat) (zs : List Int) (k : Nat) (n u : Int) (h : k < zs.length) (hd : zs[k]?.getD 0 < 128) (hb : ¬ (1099511627775 < n + zs[k]?.getD 0 * u ∨ (zs[k]?.getD 0 = 0 ∧ 1 < u))) : gvGo (f + 1) zs k n u = (n + zs[k]?.getD 0 * u, (k : Int) + 1) := by
 simp only [gvGo]; rw [if_pos h, if_neg (by omega), if_neg hb]
theorem encF_length_eq : ∀ (j f : Nat) (n : Int), 0 ≤ n → j ≤ f → ((encF f n).length = j + 1 ↔ ((j = 0 ∨ bnd (j - 1) ≤ n) ∧ (n < bnd j ∨ j = f))) := by
 intro j
 induction j with
 | zero =>
  intro f n h0 hj
  cases f with
  | zero => simp [encF]
  | succ f =>
   by_cases h : 128 ≤ n
   ·rw [encF_big f n h]
    have := encF_len f (n / 128)
    have hb : bnd 0 = 128 := rfl
    simp only [List.length_cons]
    omega
   ·rw [encF_small _ n (by omega)]
    simp [bnd]; omega
 | succ j ih =>
  intro f n h0 hj
  cases f with
  | zero => omega
  | succ f =>
   by_cases h : 128 ≤ n
   ·rw [encF_big f n h]
    have e := ih f (n / 128) (by omega) (by omega)
    simp only [List.length_cons, Nat.add_right_cancel_iff] at e ⊢
    rw [e]
    cases j with
    | zero => simp [bnd]; omega
    | succ j =>
     simp only [bnd, Nat.add_sub_cancel]
     omega
   ·rw [encF_small _ n (by omega)]
    have := bnd_pos j
    simp; omega
open Go.RowKit
def marks (k : Int) (n : Nat) : List Int := (List.range n).map fun i : Nat => (k + (i : Int)) % 256
theorem marks_len (k : Int) (n : Nat) : (marks k n).length = n := by simp [marks]
theorem marks_at (k : Int) (n i : Nat) (h : i < n) : (marks k n)[i]?.getD 0 = (k + (i : Int)) % 256 := by simp [marks, h]
theorem marks_byte (k : Int) (n : Nat) : ∀ i : Nat, 0 ≤ (marks k n)[i]?.getD 0 ∧ (marks k n)[i]?.getD 0 ≤ 255 := by
 intro i
 by_cases h : i < n
 ·rw [marks_at k n i h]; omega
 ·rw [List.getElem?_eq_none (by rw [marks_len]; omega)]; simp
def Wb (w : World) (a : Option Addr) (n : Nat) : Prop := ∀ x, a = some x → ∀ i, i < n → w.frozen? ⟨x.block, x.off + i, none⟩ = false
theorem Ob.wb {w : World} {B : Nat} {v : Value} {zs : List Int} (h : Ob w B v zs) {a : Option Addr} {n c : Nat} (hv : v = .slice a n c) (m : Nat) : Wb w a m := by
 intro x hx i _
 rcases h.2 with ⟨rfl, h0⟩ | ⟨g, cap, cur, rfl, hbg, hg, hnc, hcm, hcs, htake⟩
 ·cases hv; cases hx
 ·cases hv; cases hx
  simp [World.frozen?, hg]
theorem grownBy_refl (w : World) (row : Option Nat) : w.grownBy w row := ⟨rfl, rfl, rfl, Nat.le_refl _, fun _ _ _ => rfl⟩
theorem grownBy_setCell {w w' : World} {b : Nat} (h : w.grownBy w' (some b)) (o : Nat) (v : Value) : w.grownBy (w'.setCell ⟨b, o, none⟩ v) (some b) :=
 ⟨h.os, h.tape, h.output, by simp [World.setCell]; exact h.size, fun k hk hne => by rw [Below.heap_setCell _ _ _ _ (fun e => hne (by rw [e]))]; exact h.block k hk hne⟩
set_option maxHeartbeats 800000 in
theorem mark_any (a : Option Addr) (n c : Nat) (zs : List Int) (k : Int) (w : World) (h : Rd w a n c zs) (hw : Wb w a n) (hk0 : 0 ≤ k) (hk1 : k ≤ 1099511627776) :
  Calls Tryz.prog 82 #[.slice a n c, .int .i64 k] w fun e w' => e = .returned (.int .i64 (k + n)) ∧ Rd w' a n c (marks k n) ∧ w.grownBy w' (a.map (·.block)) := by
 obtain ⟨hn0, hc, hm, hnm, hb, hcell⟩ := h
 have HN : Hid (n = zs.length) := hn0
 have HW := hid hw
 clear hn0 hw hb
 rcases Nat.eq_zero_or_pos n with hz | hp
 ·subst hz
  clear hcell
  go_enter Tryz.func82, Tryz.ntmps82
  go_wp2
  go_loop [1, 5] (fun s i => s = .int .i64 k ∧ i = .int .i64 0) (fun _ _ => 0)
  case atStart => exact ⟨rfl, rfl⟩
  case round =>
   obtain ⟨rfl, rfl⟩ := hrel
   go_wp2
   go_ret
   exact ⟨by simp, ⟨rfl, hc, hm, hnm, marks_byte k 0, fun h => by omega⟩, grownBy_refl _ _⟩
 ·obtain ⟨b, off, rfl, hbw, hcell⟩ := hcell hp
  go_enter Tryz.func82, Tryz.ntmps82
  go_wp2
  go_loopw [1, 5] (fun s i wr => ∃ j : Nat, j ≤ n ∧ i = .int .i64 j ∧ s = .int .i64 (k + j) ∧ w.grownBy wr (some b) ∧ (∀ i, i < n → wr.frozen? ⟨b, off + i, none⟩ = false) ∧
   (∀ i, i < n → wr.cell? ⟨b, off + i, none⟩ = some (.int .u8 (if i < j then (k + (i : Int)) % 256 else zs[i]?.getD 0)))) (fun _ i _ => n - (intOf i).toNat)
  case atStart => exact ⟨0, Nat.zero_le _, rfl, by simp, grownBy_refl _ _, fun i hi => HW.out _ rfl i hi, fun i hi => by rw [hcell i hi]; simp⟩
  case round =>
   obtain ⟨j, hj, rfl, rfl, hgr, hfr, hcl⟩ := hrel
   clear hcell
   by_cases hlt : j < n
   ·have hlt' : (j : Int) < (n : Int) := by omega
    have hcj := hcl j hlt
    have hfj := hfr j hlt
    have HC := hid hcl
    have HF := hid hfr
    have HG := hid hgr
    clear hcl hfr hgr
    rw [if_neg (Nat.lt_irrefl j)] at hcj
    have hwrap : IntKind.u8.wrap (k + (j : Int)) = (k + (j : Int)) % 256 := by simp [IntKind.wrap, IntKind.signed, IntKind.bits]
    go_wp2
    go_roundw
    case rel =>
     refine ⟨j + 1, by omega, by go_num, by go_num, grownBy_setCell HG.out _ _, fun i hi => by simpa using HF.out i hi, fun i hi => ?_⟩
     by_cases e : i = j
     ·subst e
      rw [World.cell?_setCell_same _ _ _ hcj]
      simp
     ·rw [World.cell?_setCell_other (h := by simp only [ne_eq, Addr.mk.injEq, not_and]; intro _ h; omega), HC.out i hi]
      by_cases e2 : i < j
      ·rw [if_pos e2, if_pos (by omega)]
      ·rw [if_neg e2, if_neg (by omega)]
    case measure => simp [intOf]; omega
   ·have hlt' : ¬ (j : Int) < (n : Int) := by omega
    have hjn : j = n := by omega
    have HC := hid hcl
    have HG := hid hgr
    clear hcl hfr hgr
    subst hjn
    go_wp2
    go_ret
    refine ⟨rfl, ⟨(marks_len k j).symm, hc, hm, hnm, marks_byte k j, fun _ => ⟨b, off, rfl, Nat.lt_of_lt_of_le hbw HG.out.size, fun i hi => ?_⟩⟩, HG.out⟩
    rw [HC.out i hi, if_pos hi, marks_at k j i hi]
set_option maxHeartbeats 800000 in
theorem held_any (a : Option Addr) (n c : Nat) (k : Int) (w : World) (h : Rd w a n c (marks k n)) (hk0 : 0 ≤ k) (hk1 : k ≤ 1099511627776) :
  Calls Tryz.prog 124 #[.slice a n c, .int .i64 k] w fun e w' => e = .returned (.int .i64 (k + n)) ∧ w = w' := by
 obtain ⟨h1, hc, hm, hnm, hb, hcell⟩ := h
 clear hb h1
 go_enter Tryz.func124, Tryz.ntmps124
 go_wp2
 go_loop [1, 5] (fun s i => ∃ j : Nat, j ≤ n ∧ i = .int .i64 j ∧ s = .int .i64 (k + j)) (fun _ i => n - (intOf i).toNat)
 case atStart => exact ⟨0, Nat.zero_le _, rfl, by simp⟩
 case round =>
  obtain ⟨j, hj, rfl, rfl⟩ := hrel
  by_cases hlt : j < n
  ·have hlt' : (j : Int) < (n : Int) := by omega
   obtain ⟨b, off, ha, hbw, hcell⟩ := hcell (by omega)
   have hcj := hcell j hlt
   rw [marks_at k n j hlt] at hcj
   clear hcell
   have hwrap : IntKind.u8.wrap (k + (j : Int)) = (k + (j : Int)) % 256 := by simp [IntKind.wrap, IntKind.signed, IntKind.bits]
   have hne : ((k + (j : Int)) % 256 != (k + (j : Int)) % 256) = false := by simp
   rw [ha]
   go_wp2
   go_round
   case rel => exact ⟨j + 1, by omega, by go_num, by go_num⟩
   case measure => simp [intOf]; omega
  ·have hlt' : ¬ (j : Int) < (n : Int) := by omega
   have hjn : j = n := by omega
   subst hjn
   go_wp2
   go_ret
   exact ⟨rfl, rfl⟩
open Go.RowKit
set_option linter.unusedVariables false
def offW (ds : List DW) : Nat → Nat
 | 0 => 0
 | k + 1 => offW ds k + 1 + (dwAt ds k).2.length
theorem offW_eq (ds : List DW) (k : Nat) : offW ds k = offS (ds.map Prod.snd) k + k := by
 induction k with
 | zero => rfl
 | succ k ih => simp only [offW, offS, shAt_map, ih]; omega
theorem offW_mono (ds : List DW) {i n : Nat} (h : i ≤ n) : offW ds i ≤ offW ds n := by
 rw [offW_eq, offW_eq]
 have := offS_mono (ds.map Prod.snd) h
 omega
def dkTot (d : DK) : Nat := offS d.sh d.sh.length + offW d.dw d.dw.length
theorem tot_of_sum {d : DK} (h : dkSum d ≤ 1048576) : dkTot d ≤ 4194304 := by
 unfold dkSum at h
 unfold dkTot
 rw [offW_eq]
 omega
theorem ownBlock_map (a : Option Addr) (n c : Nat) : (Value.slice a n c).ownBlock = a.map (·.block) := by cases a <;> rfl
theorem Rd.toD {w w' : World} {R : Nat → Prop} {a : Option Addr} {n c : Nat} {zs : List Int} (h : Rd w a n c zs) (ho : Only R w w') (hR : ∀ y, (Value.slice a n c).ownBlock = some y → ¬ R y) : Rd w' a n c zs := by
 obtain ⟨h1, h2, h3, h30, h4, h5⟩ := h
 refine ⟨h1, h2, h3, h30, h4, fun hp => ?_⟩
 obtain ⟨b, off, rfl, hb, hc⟩ := h5 hp
 refine ⟨b, off, rfl, Nat.lt_of_lt_of_le hb ho.size, fun i hi => ?_⟩
 rw [World.cell?_of_block (w := w) (a := ⟨b, off + i, none⟩) (ho.block b hb (hR b (by rw [ownBlock_map]; rfl)))]
 exact hc i hi
def LBy (w : World) (v : Value) (n q : Nat) : Prop := ∃ a c, v = .slice a n c ∧ Rd w a n c (marks (q : Int) n)
theorem LBy.to {w w' : World} {R : Nat → Prop} {v : Value} {n q : Nat} (h : LBy w v n q) (ho : Only R w w') (hR : ∀ y, v.ownBlock = some y → ¬ R y) : LBy w' v n q := by
 obtain ⟨a, c, rfl, hr⟩ := h
 exact ⟨a, c, rfl, hr.toD ho hR⟩
structure SM (w : World) (v : Value) (V : List Value) (ss : List (List Int)) (k : Nat) : Prop where
 len : V.length = ss.length
 row : w.ownsRow 0 102 1 v ss.length V
 lie : ∀ i, i < ss.length → LBy w (uAt V i) (shAt ss i).length (k + offS ss i)
theorem SM.to {w w' : World} {R : Nat → Prop} {v : Value} {V : List Value} {ss : List (List Int)} {k : Nat} (h : SM w v V ss k) (ho : Only R w w') (hR : ∀ y, sbl v V y → ¬ R y) : SM w' v V ss k :=
 ⟨h.len, own_kept h.row ho (fun y e => hR y (.inl e)), fun i hi => (h.lie i hi).to ho (fun y e => hR y (.inr ⟨i, by rw [h.len]; exact hi, e⟩))⟩
structure WM (w : World) (v : Value) (U : List (Int × Value)) (ds : List DW) (k : Nat) : Prop where
 len : U.length = ds.length
 row : ∃ U' : List (Int × Value), U'.length = ds.length ∧ w.ownsRow 0 103 2 v ds.length (wcs U') ∧ (∀ i, (xAt U' i).2 = (xAt U i).2) ∧ ∀ i, i < ds.length → (xAt U' i).1 = ((k + offW ds i : Nat) : Int)
 lie : ∀ i, i < ds.length → LBy w (xAt U i).2 (dwAt ds i).2.length (k + offW ds i + 1)
theorem WM.to {w w' : World} {R : Nat → Prop} {v : Value} {U : List (Int × Value)} {ds : List DW} {k : Nat} (h : WM w v U ds k) (ho : Only R w w') (hR : ∀ y, wbl v U y → ¬ R y) : WM w' v U ds k := by
 refine ⟨h.len, ?_, fun i hi => (h.lie i hi).to ho (fun y e => hR y (.inr ⟨i, by rw [h.len]; exact hi, e⟩))⟩
 obtain ⟨U', h1, h2, h3⟩ := h.row
 exact ⟨U', h1, own_kept h2 ho (fun y e => hR y (.inl e)), h3⟩
set_option maxHeartbeats 4000000 in
theorem markSheetS_ex (B : Nat) (a : Option Addr) (n c k : Nat) (V : List Value) (ss : List (List Int)) (w : World) (h : SOw w B (.slice a n c) V ss) (ht : offS ss ss.length ≤ 4194304) (hk0 : 0 < k) (hk : k ≤ 1000000000) :
  Calls Tryz.prog 36 #[.slice a n c, .int .i64 (k : Int)] w fun e w' => e = .returned (.int .i64 ((k + offS ss ss.length : Nat) : Int)) ∧ SM w' (.slice a n c) V ss k ∧ Only (fun y => ∃ i, i < ss.length ∧ (uAt V i).ownBlock = some y) w w' := by
 obtain ⟨hnn, hnc, hcm, -⟩ := own_at h.row
 have HNN := hid hnn
 have H0 := hid h
 have HT := hid ht
 clear h hnn ht
 go_enter Tryz.func36, Tryz.ntmps36
 go_wp2_with fail
 go_loopw [1, 5] (fun x i wr => ∃ j q : Nat, x = .int .i64 (q : Int) ∧ i = .int .i64 j ∧ j ≤ n ∧ Hid (q = k + offS ss j) ∧ Hid (Only (fun y => ∃ i, i < j ∧ (uAt V i).ownBlock = some y) w wr) ∧ Hid (∀ i, i < j → LBy wr (uAt V i) (shAt ss i).length (k + offS ss i))) (fun _ i _ => n - (intOf i).toNat)
 case atStart => exact ⟨0, k, rfl, rfl, Nat.zero_le _, rfl, Only.refl _ _, fun i hi => absurd hi (Nat.not_lt_zero _)⟩
 case round =>
  obtain ⟨j, q, rfl, rfl, hj, HQ, HO, HL⟩ := hrel
  by_cases hlt : j < n
  ·have hlt' : (j : Int) < (n : Int) := by omega
   have hjl : j < ss.length := by rw [← HNN.out]; exact hlt
   have HOF : Hid (offS ss (j + 1) = offS ss j + (shAt ss j).length) := rfl
   have hle := offS_mono ss (show j + 1 ≤ ss.length by omega)
   have hq2 : (q : Int) ≤ 1099511627776 := by have h1 := HQ.out; have h2 := HT.out; have h3 := offS_mono ss (show j ≤ ss.length by omega); omega
   have hq0 : (0 : Int) ≤ (q : Int) := by omega
   have hlen : (shAt ss j).length ≤ 70368744177664 := by have h2 := HT.out; rw [HOF.out] at hle; omega
   have hown := own_kept (H0.out.own j hjl).1 HO.out (fun y hy => by
    rintro ⟨i, hi, hb⟩
    exact H0.out.apart j i hjl (by omega) (by omega) y hy hb)
   have hrow := own_kept H0.out.row HO.out (fun y e => by
    rintro ⟨i, hi, hb⟩
    exact H0.out.off i (by omega) y hb e)
   obtain ⟨-, -, -, hr⟩ := own_at hrow
   obtain ⟨g, rfl, -, -, -, hcell⟩ := hr (by omega)
   have c0 := hcell j _ (uAt_some (by rw [H0.out.len]; exact hjl))
   obtain ⟨a2, c2, e0, hrd, -⟩ := Ob.rd hown (H0.out.own j hjl).2 hlen
   have hwb := Ob.wb hown e0 (shAt ss j).length
   have HAP : Hid (∀ i, i < j → ∀ y, (uAt V i).ownBlock = some y → (uAt V j).ownBlock ≠ some y) := fun i hi y hy => H0.out.apart i j (by omega) hjl (by omega) y hy
   rw [e0] at c0 HAP
   have HRD := hid hrd
   have HWB := hid hwb
   have HE0 := hid e0
   clear hrow hown hr hcell hrd hwb e0 hle hlen
   generalize hm : (shAt ss j).length = m at *
   have HM := hid hm
   clear hm
   go_wp2_with fail
   refine (mark_any a2 m c2 _ (q : Int) wr HRD.out HWB.out hq0 hq2).mono ?_
   rintro e w1 ⟨rfl, hr1, hg1⟩
   have O1 : Hid (Only (fun y => (Value.slice a2 m c2).ownBlock = some y) wr w1) := only_of_grown hg1 (fun k e => by rw [ownBlock_map]; exact e)
   have HO3 : Hid (Only (fun y => ∃ i, i < j + 1 ∧ (uAt V i).ownBlock = some y) w w1) := (HO.out.mono (fun y _ ⟨i, hi, hb⟩ => ⟨i, by omega, hb⟩)).trans (O1.out.mono (fun y _ e => ⟨j, by omega, by rw [HE0.out]; exact e⟩))
   have HLF : Hid (∀ i, i < j + 1 → LBy w1 (uAt V i) (shAt ss i).length (k + offS ss i)) := by
    intro i hi
    by_cases e : i = j
    ·subst e
     rw [HM.out, HE0.out, ← HQ.out]
     exact ⟨a2, c2, rfl, hr1⟩
    ·exact (HL.out i (by omega)).to O1.out (fun y hy e2 => HAP.out i (by omega) y hy e2)
   have HQ3 : Hid (q + m = k + offS ss (j + 1)) := by show _ = _; rw [HOF.out, HQ.out]; omega
   clear hr1 hg1 HL HO c0 HOF HRD HWB HAP
   go_wp2
   go_roundw
   case rel => exact ⟨j + 1, q + m, by go_num, by go_num, by omega, HQ3.out, HO3.out, HLF.out⟩
   case measure => simp [intOf]; omega
  ·have hjn : j = ss.length := by rw [← HNN.out]; omega
   subst hjn
   have HF : Hid (SM wr (.slice a n c) V ss k) := ⟨H0.out.len, ownD_base (own_kept H0.out.row HO.out (fun y e => by rintro ⟨i, hi, hb⟩; exact H0.out.off i hi y hb e)) (Nat.zero_le _), HL.out⟩
   clear HL
   go_wp2
   go_ret
   exact ⟨by rw [← HQ.out]; rfl, HF.out, HO.out⟩
set_option maxHeartbeats 4000000 in
theorem heldSheetS_any (a : Option Addr) (n c k : Nat) (V : List Value) (ss : List (List Int)) (w : World) (h : SM w (.slice a n c) V ss k) (ht : offS ss ss.length ≤ 4194304) (hk0 : 0 < k) (hk : k ≤ 1000000000) :
  Calls Tryz.prog 84 #[.slice a n c, .int .i64 (k : Int)] w fun e w' => e = .returned (.int .i64 ((k + offS ss ss.length : Nat) : Int)) ∧ w' = w := by
 obtain ⟨hnn, hnc, hcm, hr⟩ := own_at h.row
 have HNN := hid hnn
 have H0 := hid h
 have HT := hid ht
 have HR := hid hr
 clear h hnn ht hr
 go_enter Tryz.func84, Tryz.ntmps84
 go_wp2_with fail
 go_loop [1, 5] (fun x i => ∃ j q : Nat, x = .int .i64 (q : Int) ∧ i = .int .i64 j ∧ j ≤ n ∧ Hid (q = k + offS ss j)) (fun _ i => n - (intOf i).toNat)
 case atStart => exact ⟨0, k, rfl, rfl, Nat.zero_le _, rfl⟩
 case round =>
  obtain ⟨j, q, rfl, rfl, hj, HQ⟩ := hrel
  by_cases hlt : j < n
  ·have hlt' : (j : Int) < (n : Int) := by omega
   have hjl : j < ss.length := by rw [← HNN.out]; exact hlt
   have HOF : Hid (offS ss (j + 1) = offS ss j + (shAt ss j).length) := rfl
   have hle := offS_mono ss (show j + 1 ≤ ss.length by omega)
   have hq2 : (q : Int) ≤ 1099511627776 := by have h1 := HQ.out; have h2 := HT.out; have h3 := offS_mono ss (show j ≤ ss.length by omega); omega
   have hq0 : (0 : Int) ≤ (q : Int) := by omega
   obtain ⟨g, rfl, -, -, -, hcell⟩ := HR.out (by omega)
   have c0 := hcell j _ (uAt_some (by rw [H0.out.len]; exact hjl))
   obtain ⟨a2, c2, e0, hrd⟩ := H0.out.lie j hjl
   rw [e0] at c0
   rw [← HQ.out] at hrd
   have hlm : (shAt ss j).length ≤ 4194304 := by have h2 := HT.out; rw [HOF.out] at hle; omega
   have HRD := hid hrd
   clear hcell hrd e0 hle
   generalize hm : (shAt ss j).length = m at *
   clear hm
   have hn0 : ¬ ((q : Int) + (m : Int)) < 0 := by omega
   go_wp2_with fail
   refine (held_any a2 m c2 (q : Int) _ HRD.out hq0 hq2).mono ?_
   rintro e w1 ⟨rfl, rfl⟩
   have HQ3 : Hid (q + m = k + offS ss (j + 1)) := by show _ = _; rw [HOF.out, HQ.out]; omega
   clear c0 HOF HRD
   go_wp2
   go_round
   case rel => exact ⟨j + 1, q + m, by go_num, by go_num, by omega, HQ3.out⟩
   case measure => simp [intOf]; omega
  ·have hjn : j = ss.length := by rw [← HNN.out]; omega
   subst hjn
   have HE : Hid ((k : Int) + (offS ss ss.length : Int) = (q : Int)) := by have := HQ.out; show _ = _; omega
   go_wp2
   go_ret
   exact ⟨by rw [HE.out]; rfl, rfl⟩
set_option maxHeartbeats 4000000 in
theorem markWriteS_ex (B : Nat) (a : Option Addr) (n c k : Nat) (U : List (Int × Value)) (ds : List DW) (w : World) (h : WO w B (.slice a n c) U ds) (ht : offW ds ds.length ≤ 4194304) (hk0 : 0 < k) (hk : k ≤ 1000000000) :
  Calls Tryz.prog 37 #[.slice a n c, .int .i64 (k : Int)] w fun e w' => e = .returned (.int .i64 ((k + offW ds ds.length : Nat) : Int)) ∧ WM w' (.slice a n c) U ds k ∧ Only (wbl (.slice a n c) U) w w' := by
 obtain ⟨hnn, hnc, hcm, -⟩ := own_at h.row
 have HNN := hid hnn
 have H0 := hid h
 have HT := hid ht
 clear h hnn ht
 go_enter Tryz.func37, Tryz.ntmps37
 go_wp2_with fail
 go_loopw [1, 5] (fun x i wr => ∃ j q : Nat, x = .int .i64 (q : Int) ∧ i = .int .i64 j ∧ j ≤ n ∧ Hid (q = k + offW ds j) ∧ Hid (Only (fun y => (Value.slice a n c).ownBlock = some y ∨ ∃ i, i < j ∧ (xAt U i).2.ownBlock = some y) w wr) ∧ Hid (∀ i, i < j → LBy wr (xAt U i).2 (dwAt ds i).2.length (k + offW ds i + 1))
   ∧ Hid (∃ U' : List (Int × Value), U'.length = ds.length ∧ wr.ownsRow 0 103 2 (.slice a n c) ds.length (wcs U') ∧ (∀ i, (xAt U' i).2 = (xAt U i).2) ∧ ∀ i, i < j → (xAt U' i).1 = ((k + offW ds i : Nat) : Int))) (fun _ i _ => n - (intOf i).toNat)
 case atStart => exact ⟨0, k, rfl, rfl, Nat.zero_le _, rfl, Only.refl _ _, fun i hi => absurd hi (Nat.not_lt_zero _), ⟨U, H0.out.len, ownD_base H0.out.row (Nat.zero_le _), fun _ => rfl, fun i hi => absurd hi (Nat.not_lt_zero _)⟩⟩
 case round =>
  obtain ⟨j, q, rfl, rfl, hj, HQ, HO, HL, HW⟩ := hrel
  by_cases hlt : j < n
  ·have hlt' : (j : Int) < (n : Int) := by omega
   have hjl : j < ds.length := by rw [← HNN.out]; exact hlt
   have HOF : Hid (offW ds (j + 1) = offW ds j + 1 + (dwAt ds j).2.length) := rfl
   have hle := offW_mono ds (show j + 1 ≤ ds.length by omega)
   have hqs : q ≤ 1004194304 := by have h1 := HQ.out; have h2 := HT.out; have h3 := offW_mono ds (show j ≤ ds.length by omega); omega
   have hq0 : (0 : Int) ≤ (q : Int) := by omega
   have hlen : (dwAt ds j).2.length ≤ 70368744177664 := by have h2 := HT.out; rw [HOF.out] at hle; omega
   have hown := own_kept (H0.out.own j hjl).2.1 HO.out (fun y hy => by
    rintro (e | ⟨i, hi, hb⟩)
    ·exact H0.out.off j hjl y hy e
    ·exact H0.out.apart j i hjl (by omega) (by omega) y hy hb)
   obtain ⟨U', hul, hrow, hu2, hu1⟩ := HW.out
   obtain ⟨-, -, -, hr⟩ := own_at hrow
   obtain ⟨g, rfl, -, -, hf, hcell⟩ := hr (by omega)
   obtain ⟨d0, d1⟩ := wcs_at U' j (by rw [hul]; exact hjl)
   have c0 := hcell _ _ d0
   have c1 := hcell _ _ d1
   have f0 := hf (j * 2)
   obtain ⟨a2, c2, e0, hrd, -⟩ := Ob.rd hown (H0.out.own j hjl).2.2 hlen
   have hwb := Ob.wb hown e0 (dwAt ds j).2.length
   have HOG : Hid (∀ i, i < ds.length → ∀ y, (xAt U i).2.ownBlock = some y → y ≠ g) := fun i hi y hy e => H0.out.off i hi y hy (by rw [e]; rfl)
   have HAP : Hid (∀ i, i < j → ∀ y, (xAt U i).2.ownBlock = some y → (xAt U j).2.ownBlock ≠ some y) := fun i hi y hy => H0.out.apart i j (by omega) hjl (by omega) y hy
   have hgj := HOG.out j hjl
   rw [hu2 j, e0] at c1
   rw [e0] at HAP hgj
   -- the store of At
   have OS : Hid (Only (fun y => y = g) wr (wr.setCell ⟨g, j * 2, none⟩ (.int .i64 (q : Int)))) := only_set (R := fun y => y = g) rfl _
   have HRD : Hid (Rd (wr.setCell ⟨g, j * 2, none⟩ (.int .i64 (q : Int))) a2 (dwAt ds j).2.length c2 (dwAt ds j).2) := hrd.toD OS.out (fun y e e2 => hgj y e e2)
   have HWB : Hid (Wb (wr.setCell ⟨g, j * 2, none⟩ (.int .i64 (q : Int))) a2 (dwAt ds j).2.length) := by
    intro x hx i hi
    rw [World.frozen?_setCell]
    exact hwb x hx i hi
   have HROW : Hid ((wr.setCell ⟨g, j * 2, none⟩ (.int .i64 (q : Int))).ownsRow 0 103 2 (.slice (some ⟨g, 0, none⟩) n c) ds.length (wcs (U'.set j (q, (xAt U' j).2)))) := by
    have := ownD_set hrow (j * 2) (.int .i64 (q : Int))
    have e : wcs (U'.set j ((q : Int), (xAt U' j).2)) = (wcs U').set (j * 2) (.int .i64 (q : Int)) := by
     rw [wcs_set _ _ _ (by rw [hul]; exact hjl)]
     apply List.ext_getElem?
     intro i
     by_cases e : i = j * 2 + 1
     ·subst e
      rw [List.getElem?_set_self (by rw [List.length_set, wcs_length, hul]; omega), List.getElem?_set_ne (by omega), d1]
     ·rw [List.getElem?_set_ne (by omega)]
    show World.ownsRow _ _ _ _ _ _ _
    rw [e]
    exact this
   have HU2 : Hid (∀ i, (xAt (U'.set j ((q : Int), (xAt U' j).2)) i).2 = (xAt U i).2) := by
    intro i
    by_cases e : i = j
    ·subst e; rw [xAt_set (by rw [hul]; exact hjl)]; exact hu2 i
    ·rw [xAt_other e]; exact hu2 i
   have HU1 : Hid (∀ i, i < j + 1 → (xAt (U'.set j ((q : Int), (xAt U' j).2)) i).1 = ((k + offW ds i : Nat) : Int)) := by
    intro i hi
    by_cases e : i = j
    ·subst e; rw [xAt_set (by rw [hul]; exact hjl), ← HQ.out]
    ·rw [xAt_other e]; exact hu1 i (by omega)
   have HUL : Hid ((U'.set j ((q : Int), (xAt U' j).2)).length = ds.length) := by show _ = _; rw [List.length_set]; exact hul
   have HE0 := hid e0
   have HBL : Hid (∀ y, (Value.slice (some ⟨g, 0, none⟩) n c).ownBlock = some y → y = g) := fun y e => by simpa [Value.ownBlock] using e.symm
   clear hrow hown hr hcell hrd hwb e0 hle hlen hu2 hu1 hul d0 d1 hf HW
   generalize U'.set j ((q : Int), (xAt U' j).2) = U2 at *
   generalize (xAt U' j).1 = o0 at *
   generalize hm : (dwAt ds j).2.length = m at *
   have HM := hid hm
   clear hm
   have hq1 : (0 : Int) ≤ (q : Int) + 1 := by omega
   have hq2 : (q : Int) + 1 ≤ 1099511627776 := by omega
   go_wp2_with fail
   refine (mark_any a2 m c2 _ ((q : Int) + 1) _ HRD.out HWB.out hq1 hq2).mono ?_
   generalize wr.setCell ⟨g, j * 2, none⟩ (.int .i64 (q : Int)) = ws at *
   rintro e w1 ⟨rfl, hr1, hg1⟩
   have O1 : Hid (Only (fun y => (Value.slice a2 m c2).ownBlock = some y) ws w1) := only_of_grown hg1 (fun k e => by rw [ownBlock_map]; exact e)
   have HGJ := hid hgj
   have HO3 : Hid (Only (fun y => (Value.slice (some ⟨g, 0, none⟩) n c).ownBlock = some y ∨ ∃ i, i < j + 1 ∧ (xAt U i).2.ownBlock = some y) w w1) := ((HO.out.mono (fun y _ h => h.imp id (fun ⟨i, hi, hb⟩ => ⟨i, by omega, hb⟩))).trans (OS.out.mono (fun y _ e => .inl (by rw [e]; rfl)))).trans (O1.out.mono (fun y _ e => .inr ⟨j, by omega, by rw [HE0.out]; exact e⟩))
   have HLF : Hid (∀ i, i < j + 1 → LBy w1 (xAt U i).2 (dwAt ds i).2.length (k + offW ds i + 1)) := by
    intro i hi
    by_cases e : i = j
    ·subst e
     rw [HM.out, HE0.out, ← HQ.out]
     exact ⟨a2, c2, rfl, by simpa using hr1⟩
    ·exact ((HL.out i (by omega)).to OS.out (fun y hy e2 => HOG.out i (by rw [← HNN.out]; omega) y hy e2)).to O1.out (fun y hy e2 => HAP.out i (by omega) y hy e2)
   have HROW1 := hid (own_kept HROW.out O1.out (fun y e e2 => HGJ.out y e2 (HBL.out y e)))
   have HQ3 : Hid (q + 1 + m = k + offW ds (j + 1)) := by show _ = _; rw [HOF.out, HQ.out]; omega
   clear hr1 hg1 HL HO HOF HRD HWB HAP hgj HROW f0 c0 c1
   go_wp2
   go_roundw
   case rel => exact ⟨j + 1, q + 1 + m, by go_num, by go_num, by omega, HQ3.out, HO3.out, HLF.out, ⟨U2, HUL.out, HROW1.out, HU2.out, HU1.out⟩⟩
   case measure => simp [intOf]; omega
  ·have hjn : j = ds.length := by rw [← HNN.out]; omega
   subst hjn
   have HF : Hid (WM wr (.slice a n c) U ds k) := ⟨H0.out.len, HW.out, HL.out⟩
   have HO2 : Hid (Only (wbl (.slice a n c) U) w wr) := HO.out.mono (fun y _ h => h.imp id (fun ⟨i, hi, hb⟩ => ⟨i, by rw [H0.out.len]; exact hi, hb⟩))
   clear HL HW
   go_wp2
   go_ret
   exact ⟨by rw [← HQ.out]; rfl, HF.out, HO2.out⟩
set_option maxHeartbeats 4000000 in
set_option maxRecDepth 20000 in
theorem heldWriteS_any (a : Option Addr) (n c k : Nat) (U : List (Int × Value)) (ds : List DW) (w : World) (h : WM w (.slice a n c) U ds k) (ht : offW ds ds.length ≤ 4194304) (hk0 : 0 < k) (hk : k ≤ 1000000000) :
  Calls Tryz.prog 85 #[.slice a n c, .int .i64 (k : Int)] w fun e w' => e = .returned (.int .i64 ((k + offW ds ds.length : Nat) : Int)) ∧ Below w.heap.size w w' := by
 obtain ⟨U', hul, hrow, hu2, hu1⟩ := h.row
 obtain ⟨hnn, hnc, hcm, hr⟩ := own_at hrow
 have HNN := hid hnn
 have H0 := hid h
 have HT := hid ht
 have HR := hid hr
 have HU := hid (And.intro hul (And.intro hu2 hu1))
 clear h hnn ht hr hul hu2 hu1 hrow
 go_enter Tryz.func85, Tryz.ntmps85
 go_wp2_with fail
 go_loopw [1, 5] (fun x i wr => ∃ j q r : Nat, x = .int .i64 (q : Int) ∧ i = .int .i64 j ∧ j ≤ n ∧ Hid (q = k + offW ds j) ∧ wr = w.drewN r) (fun _ i _ => n - (intOf i).toNat)
 case atStart => exact ⟨0, k, 0, rfl, rfl, Nat.zero_le _, rfl, rfl⟩
 case round =>
  obtain ⟨j, q, r, rfl, rfl, hj, HQ, rfl⟩ := hrel
  by_cases hlt : j < n
  ·have hlt' : (j : Int) < (n : Int) := by omega
   have hjl : j < ds.length := by rw [← HNN.out]; exact hlt
   have HOF : Hid (offW ds (j + 1) = offW ds j + 1 + (dwAt ds j).2.length) := rfl
   have hle := offW_mono ds (show j + 1 ≤ ds.length by omega)
   have hqs : q ≤ 1004194304 := by have h1 := HQ.out; have h2 := HT.out; have h3 := offW_mono ds (show j ≤ ds.length by omega); omega
   obtain ⟨g, rfl, -, -, -, hcell⟩ := HR.out (by omega)
   obtain ⟨d0, d1⟩ := wcs_at U' j (by rw [HU.out.1]; exact hjl)
   have c0 := hcell _ _ d0
   have c1 := hcell _ _ d1
   obtain ⟨a2, c2, e0, hrd⟩ := H0.out.lie j hjl
   rw [HU.out.2.1 j, e0] at c1
   rw [HU.out.2.2 j hjl, ← HQ.out] at c0
   rw [← HQ.out] at hrd
   have hlm : (dwAt ds j).2.length ≤ 4194304 := by have h2 := HT.out; rw [HOF.out] at hle; omega
   have HRD : Hid (Rd (w.drewN r) a2 (dwAt ds j).2.length c2 (marks ((q : Int) + 1) (dwAt ds j).2.length)) := by
    have := hrd.kept (Below.drewN' (Below.refl _ _) r)
    show Rd _ _ _ _ _
    simpa using this
   clear hcell hrd e0 hle d0 d1
   generalize hm : (dwAt ds j).2.length = m at *
   clear hm
   have hne : ((q : Int) != (q : Int)) = false := by simp
   have hq1 : (0 : Int) ≤ (q : Int) + 1 := by omega
   have hq2 : (q : Int) + 1 ≤ 1099511627776 := by omega
   have hzc : (q : Int) + 1 + (m : Int) = ((q + 1 + m : Nat) : Int) := by omega
   have hn0 : ¬ ((q + 1 + m : Nat) : Int) < 0 := by omega
   have HQ3 : Hid (q + 1 + m = k + offW ds (j + 1)) := by show _ = _; rw [HOF.out, HQ.out]; omega
   go_wp2_with fail
   refine (held_any a2 m c2 ((q : Int) + 1) _ HRD.out hq1 hq2).mono ?_
   rintro e w1 ⟨rfl, rfl⟩
   clear c0 c1 HOF HRD hne hq1 hq2
   rw [hzc]
   generalize q + 1 + m = z at *
   go_wp2
   go_roundw
   case rel => exact ⟨j + 1, z, r, rfl, by go_num, by omega, HQ3.out, rfl⟩
   case measure => simp [intOf]; omega
  ·have hjn : j = ds.length := by rw [← HNN.out]; omega
   subst hjn
   have HE : Hid ((k : Int) + (offW ds ds.length : Int) = (q : Int)) := by have := HQ.out; show _ = _; omega
   go_wp2
   go_ret
   exact ⟨by first | (rw [HE.out]; rfl) | (rw [← HQ.out]; rfl), Below.drewN' (Below.refl _ _) r⟩
structure DM (w : World) (sv : Value) (V : List Value) (dv : Value) (U : List (Int × Value)) (d : DK) (k : Nat) : Prop where
 hs : SM w sv V d.sh k
 hd : WM w dv U d.dw (k + offS d.sh d.sh.length)
theorem DM.to {w w' : World} {R : Nat → Prop} {sv dv : Value} {V : List Value} {U : List (Int × Value)} {d : DK} {k : Nat} (h : DM w sv V dv U d k) (ho : Only R w w') (hR : ∀ y, dbl sv V dv U y → ¬ R y) : DM w' sv V dv U d k := ⟨h.hs.to ho (fun y e => hR y (.inl e)), h.hd.to ho (fun y e => hR y (.inr e))⟩
theorem DM.below {w w' : World} {sv dv : Value} {V : List Value} {U : List (Int × Value)} {d : DK} {k : Nat} (h : DM w sv V dv U d k) (hb : Below w.heap.size w w') : DM w' sv V dv U d k := h.to (only_of_below hb (fun _ => False)) (fun _ _ h => h)
set_option maxHeartbeats 2000000 in
theorem markDisk_ex (B : Nat) (sa : Option Addr) (sn sc : Nat) (da : Option Addr) (dn dc k : Nat) (V : List Value) (U : List (Int × Value)) (d : DK) (w : World) (h : DO w B (.slice sa sn sc) V (.slice da dn dc) U d) (ht : dkTot d ≤ 4194304) (hk0 : 0 < k) (hk : k ≤ 100000000) :
  Calls Tryz.prog 12 #[.agg #[.slice sa sn sc, .slice da dn dc], .int .i64 (k : Int)] w fun e w' => e = .returned (.int .i64 ((k + dkTot d : Nat) : Int)) ∧ DM w' (.slice sa sn sc) V (.slice da dn dc) U d k ∧ Only (dbl (.slice sa sn sc) V (.slice da dn dc) U) w w' := by
 have hb := below_new (o := .cells #[.slice sa sn sc, .slice da dn dc] 30) (w := w) (Below.refl _ _)
 have K0 := hid (Bk.new w 30 [.slice sa sn sc, .slice da dn dc])
 have D0 := hid (h.below hb)
 have HNB : Hid (∀ y, dbl (.slice sa sn sc) V (.slice da dn dc) U y → y ≠ w.heap.size) := fun y hy => by have := (h.lt hy).2; omega
 have HO0 : Hid (Only (dbl (.slice sa sn sc) V (.slice da dn dc) U) w (w.alloc (.cells #[.slice sa sn sc, .slice da dn dc] 30))) := only_of_below hb _
 have t1 : offS d.sh d.sh.length ≤ 4194304 := by unfold dkTot at ht; omega
 have t2 : offW d.dw d.dw.length ≤ 4194304 := by unfold dkTot at ht; omega
 have HTT : Hid (k + offS d.sh d.sh.length + offW d.dw d.dw.length = k + dkTot d) := by show _ = _; unfold dkTot; omega
 have HL := hid h.hs.len
 have HT1 := hid t1
 have HT2 := hid t2
 clear hb h ht
 go_enter Tryz.func12, Tryz.ntmps12
 go_wp2_with fail
 refine (markSheetS_ex B sa sn sc k V d.sh _ D0.out.hs HT1.out hk0 (by omega)).mono ?_
 generalize w.alloc (.cells #[.slice sa sn sc, .slice da dn dc] 30) = W at *
 rintro e w1 ⟨rfl, hm1, ho1⟩
 have O1 := hid (ho1.mono (R' := sbl (.slice sa sn sc) V) (fun y _ ⟨i, hi, hb⟩ => .inr ⟨i, by rw [HL.out]; exact hi, hb⟩))
 have M1 := hid hm1
 have K1 := hid (K0.out.to O1.out (fun e => HNB.out _ (.inl e) rfl))
 have W1 := hid (D0.out.hd.to O1.out (fun y hy e => D0.out.ap y e hy))
 have c1 := K1.out.cell (j := 1) rfl
 have HQ1 : Hid (k + offS d.sh d.sh.length ≤ 1000000000) := by show _ ≤ _; omega
 clear hm1 ho1 K0 t1 t2
 generalize hq : k + offS d.sh d.sh.length = q at *
 have HQ := hid hq
 have hq0 : 0 < q := by omega
 clear hq
 go_wp2_with fail
 refine (markWriteS_ex B da dn dc q U d.dw _ W1.out HT2.out hq0 HQ1.out).mono ?_
 rintro e w2 ⟨rfl, hm2, ho2⟩
 have HF : Hid (DM w2 (.slice sa sn sc) V (.slice da dn dc) U d k) := ⟨M1.out.to ho2 (fun y hy e => D0.out.ap y hy e), by rw [HQ.out]; exact hm2⟩
 have HO : Hid (Only (dbl (.slice sa sn sc) V (.slice da dn dc) U) w w2) := (HO0.out.trans (O1.out.mono (fun y _ e => .inl e))).trans (ho2.mono (fun y _ e => .inr e))
 clear hm2 ho2 c1
 rw [HTT.out]
 go_wp2
 go_ret
 exact ⟨rfl, HF.out, HO.out⟩
set_option maxHeartbeats 2000000 in
theorem heldDisk_any (sa : Option Addr) (sn sc : Nat) (da : Option Addr) (dn dc k : Nat) (V : List Value) (U : List (Int × Value)) (d : DK) (w : World) (h : DM w (.slice sa sn sc) V (.slice da dn dc) U d k) (ht : dkTot d ≤ 4194304) (hk0 : 0 < k) (hk : k ≤ 100000000) :
  Calls Tryz.prog 40 #[.agg #[.slice sa sn sc, .slice da dn dc], .int .i64 (k : Int)] w fun e w' => e = .returned (.int .i64 ((k + dkTot d : Nat) : Int)) ∧ Below w.heap.size w w' := by
 have hb := below_new (o := .cells #[.slice sa sn sc, .slice da dn dc] 30) (w := w) (Below.refl _ _)
 have D0 := hid (h.below hb)
 have HB0 := hid hb
 have t1 : offS d.sh d.sh.length ≤ 4194304 := by unfold dkTot at ht; omega
 have t2 : offW d.dw d.dw.length ≤ 4194304 := by unfold dkTot at ht; omega
 have HTT : Hid (k + offS d.sh d.sh.length + offW d.dw d.dw.length = k + dkTot d) := by show _ = _; unfold dkTot; omega
 have HT1 := hid t1
 have HT2 := hid t2
 clear hb h
 go_enter Tryz.func40, Tryz.ntmps40
 go_wp2_with fail
 refine (heldSheetS_any sa sn sc k V d.sh _ D0.out.hs HT1.out hk0 (by omega)).mono ?_
 rintro e w1 ⟨rfl, rfl⟩
 have HQ1 : Hid (k + offS d.sh d.sh.length ≤ 1000000000) := by show _ ≤ _; omega
 have HD := hid D0.out.hd
 clear t1 t2 D0
 generalize hq : k + offS d.sh d.sh.length = q at *
 have hq0 : 0 < q := by omega
 have hq1 : ¬ (q : Int) < 0 := by omega
 clear hq
 go_wp2_with fail
 refine (heldWriteS_any da dn dc q U d.dw _ HD.out HT2.out hq0 HQ1.out).mono ?_
 rintro e w2 ⟨rfl, hb2⟩
 have HB2 := hid (HB0.out.trans (hb2.mono HB0.out.size))
 clear hb2
 rw [HTT.out]
 generalize hzz : k + dkTot d = z at *
 have HZZ := hid hzz
 clear hzz HTT
 have hz : ¬ (z : Int) < 0 := by omega
 go_wp2
 go_ret
 exact ⟨by rw [HZZ.out]; rfl, HB2.out⟩
open Go.RowKit
set_option linter.unusedVariables false
def DkPost1 (d : DK) (w : World) (e : Ending) (w' : World) : Prop := ∃ sa sn sc da dn dc V U, e = .returned (.agg #[.slice sa sn sc, .slice da dn dc]) ∧ DO w' w.heap.size (.slice sa sn sc) V (.slice da dn dc) U d ∧ Below w.heap.size w w'
open Go.RowKit
set_option linter.unusedVariables false
structure DB (v : World) (b B : Nat) (sa : Option Addr) (sn sc : Nat) (da : Option Addr) (dn dc : Nat) (V : List Value) (U : List (Int × Value)) (d : DK) : Prop where
 box : Bk v b 30 [.slice sa sn sc, .slice da dn dc]
 own : DO v B (.slice sa sn sc) V (.slice da dn dc) U d
 sep : ∀ y, dbl (.slice sa sn sc) V (.slice da dn dc) U y → y < b
theorem DB.below {v v' : World} {b B : Nat} {sa : Option Addr} {sn sc : Nat} {da : Option Addr} {dn dc : Nat} {V : List Value} {U : List (Int × Value)} {d : DK} (h : DB v b B sa sn sc da dn dc V U d) (hb : Below v.heap.size v v') : DB v' b B sa sn sc da dn dc V U d := ⟨h.box.below hb, h.own.below hb, h.sep⟩
theorem DB.new {v : World} {B : Nat} {sa : Option Addr} {sn sc : Nat} {da : Option Addr} {dn dc : Nat} {V : List Value} {U : List (Int × Value)} {d : DK} (h : DO v B (.slice sa sn sc) V (.slice da dn dc) U d) : DB (v.alloc (.cells #[.slice sa sn sc, .slice da dn dc] 30)) v.heap.size B sa sn sc da dn dc V U d := ⟨Bk.new v _ [_, _], h.below (below_new (Below.refl _ _)), fun y hy => (h.lt hy).2⟩
theorem DB.cells {v : World} {b B : Nat} {sa : Option Addr} {sn sc : Nat} {da : Option Addr} {dn dc : Nat} {V : List Value} {U : List (Int × Value)} {d : DK} (h : DB v b B sa sn sc da dn dc V U d) : v.cell? ⟨b, 0, none⟩ = some (.slice sa sn sc) ∧ v.cell? ⟨b, 1, none⟩ = some (.slice da dn dc) := ⟨h.box.cell (j := 0) rfl, h.box.cell (j := 1) rfl⟩
theorem DB.dk {v : World} {b B : Nat} {sa : Option Addr} {sn sc : Nat} {da : Option Addr} {dn dc : Nat} {V : List Value} {U : List (Int × Value)} {d : DK} (h : DB v b B sa sn sc da dn dc V U d) : Dk v (fun _ => True) sa sn sc da dn dc d := h.own.dk (fun _ _ => trivial)
structure DQ5 (v : World) (b : Nat) (sa : Option Addr) (sn sc : Nat) (da : Option Addr) (dn dc : Nat) (V : List Value) (U : List (Int × Value)) (d : DK) (k : Nat) : Prop where
 box : Bk v b 30 [.slice sa sn sc, .slice da dn dc]
 own : DM v (.slice sa sn sc) V (.slice da dn dc) U d k
open Go.RowKit
theorem info_of {P : Program} {e : TypeId} {z : Value} {size bytes : Nat} (h : (P.info? e).map (fun i => (i.zero, i.size, i.bytes)) = some (some z, size, bytes)) : ∃ i, P.info? e = some i ∧ i.zero = some z ∧ i.size = size ∧ i.bytes = bytes := by
 obtain ⟨i, hi, hz⟩ := Option.map_eq_some_iff.1 h
 simp only [Prod.mk.injEq] at hz
 exact ⟨i, hi, hz⟩
theorem run_append_row_at {P : Program} {w : World} (base : Nat) (t ty e : TypeId) (i : TypeInfo) (z : Value) (size bytes : Nat) (ht : P.underlying t = some (.slice e)) (hi : P.info? e = some i) (hz : i.zero = some z)
  (hsize : i.size = size) (hby : i.bytes = bytes) (hzs : z.cells.size = size) (hsz : 0 < size) (v : Value) (n : Nat) (xs : List Value) (hown : w.ownsRow base e size v n xs)
  (S : Nat → Prop) (src : Value) (m : Nat) (news : List Value) (hsrc : Rw w S src m news) (hl : news.length = m * size) (h1 : ∀ u ∈ news, u.oneCell' = true)
  (h63 : n + m ≤ maxLen) (hbytes : (n + m) * bytes ≤ 140737488355328) (hbase : base ≤ w.heap.size) :
  ∃ v' w', (Builtin.append_ #[t, t] ty #[v, src]).run P w = .ok v' w' ∧ w'.ownsRow base e size v' (n + m) (xs ++ news) ∧ w.grownBy w' v.ownBlock ∧ (v'.ownBlock = v.ownBlock ∨ v'.ownBlock = some w.heap.size) := by
 obtain ⟨a, c, rfl, h2, h3, h4, hn, h5⟩ := hsrc
 by_cases hm : 0 < m
 ·obtain ⟨b, off, rfl, hb, hS, hc⟩ := h5 hm
  obtain ⟨v', w', hr, ho, hg, _, ha⟩ := run_append_own_at w base t ty e i z size bytes ht hi hz hsize hby hzs hsz v n xs hown ⟨b, off, none⟩ m c news hl (fun j u hu => by rw [Addr.add_lit]; exact hc j u hu) h1 h63 hbytes hbase
  exact ⟨v', w', hr, ho, hg, ha⟩
 ·obtain rfl : m = 0 := by omega
  obtain rfl := h4 rfl
  cases a with
  | some ad =>
   obtain ⟨v', w', hr, ho, hg, _, ha⟩ := run_append_own_at w base t ty e i z size bytes ht hi hz hsize hby hzs hsz v n xs hown ad 0 c [] hl (fun j u hu => by simp at hu) h1 h63 hbytes hbase
   exact ⟨v', w', hr, ho, hg, ha⟩
  | none =>
   obtain rfl := hn rfl
   have hrun := run_append_owned_none (P := P) (w := w) base t ty e i size ht hi v n xs hown
   exact ⟨v, w, hrun, by simpa using hown, ⟨rfl, rfl, rfl, Nat.le_refl _, fun _ _ _ => rfl⟩, .inl rfl⟩
theorem wpList_append_row_at {P : Program} {w : World} {ops : Array Oper} {rest : List Oper} {o : Oper} {a : Act} {Q : Exit → Act → World → Prop} (hgd : o.guard = none) (s x : Operand) (t : TypeId)
  (ho : o.op = .call { callee := .builtin .append, args := #[s, x], argTypes := #[t, t] })
  (base : Nat) (e : TypeId) (i : TypeInfo) (z : Value) (size bytes : Nat) (ht : P.underlying t = some (.slice e)) (hi : P.info? e = some i) (hz : i.zero = some z)
  (hsize : i.size = size) (hby : i.bytes = bytes) (hzs : z.cells.size = size) (hsz : 0 < size) (v : Value) (n : Nat) (xs : List Value) (hs : a.eval s = v) (hown : w.ownsRow base e size v n xs)
  (S : Nat → Prop) (src : Value) (m : Nat) (news : List Value) (hx : a.eval x = src) (hsrc : Rw w S src m news) (hl : news.length = m * size) (h1 : ∀ u ∈ news, u.oneCell' = true)
  (h63 : n + m ≤ maxLen) (hbytes : (n + m) * bytes ≤ 140737488355328) (hbase : base ≤ w.heap.size)
  (h : ∀ v' w', w'.ownsRow base e size v' (n + m) (xs ++ news) → w.grownBy w' v.ownBlock → (v'.ownBlock = v.ownBlock ∨ v'.ownBlock = some w.heap.size) → wpList P ops Q rest (a.put o.dst v') w') : wpList P ops Q (o :: rest) a w := by
 refine wpList_plain hgd fun K hK => ?_
 obtain ⟨v', w', hr, h2, h3, h4⟩ := run_append_row_at (P := P) (w := w) base t o.type e i z size bytes ht hi hz hsize hby hzs hsz v n xs hown S src m news hsrc hl h1 h63 hbytes hbase
 unfold Oper.wp execOp
 simp only [ho, resolve, invoke, builtin, Sem.run_bind, Sem.run_pure, Result.andThen_ok, List.map_toArray, List.map_cons, List.map_nil, hs, hx, hr]
 exact hK _ _ (h v' w' h2 h3 h4)
theorem infoStr' : (Tryz.prog.info? 9).map (fun i => (i.zero, i.size, i.bytes)) = some (some (.string ⟨#[]⟩), 1, 16) := by kernel_rfl
theorem wpList_append_st1 {w : World} {ops : Array Oper} {rest : List Oper} {o : Oper} {a : Act} {Q : Exit → Act → World → Prop} (hgd : o.guard = none) (s x : Operand)
  (ho : o.op = .call { callee := .builtin .append, args := #[s, x], argTypes := #[83, 83] }) (v : Value) (n : Nat) (xs : List Value) (hs : a.eval s = v) (hown : w.ownsRow 0 9 1 v n xs)
  (g : Nat) (z : ByteArray) (hx : a.eval x = .slice (some ⟨g, 0, none⟩) 1 1) (hB : Bk w g 9 [.string z]) (hb : n ≤ 1048576)
  (h : ∀ a' n' c' w', w'.ownsRow 0 9 1 (.slice a' n' c') (n + 1) (xs ++ [.string z]) → w.grownBy w' v.ownBlock → ((Value.slice a' n' c').ownBlock = v.ownBlock ∨ (Value.slice a' n' c').ownBlock = some w.heap.size) → wpList Tryz.prog ops Q rest (a.put o.dst (.slice a' n' c')) w') : wpList Tryz.prog ops Q (o :: rest) a w := by
 obtain ⟨i, hi, hz, hsz, hby⟩ := info_of infoStr'
 refine wpList_append_row_at hgd s x 83 ho 0 9 i _ 1 16 Tryz.underlying83 hi hz hsz hby rfl (by decide) v n xs hs hown (fun _ => True) _ 1 [.string z] hx (hB.rw (Nat.le_refl _) (by omega) (fun h => by omega) _ trivial) rfl
  (by intro u hu; simp at hu; subst hu; rfl) (by unfold maxLen; omega) (by omega) (Nat.zero_le _) ?_
 intro v' w' k1 k2 k3
 obtain ⟨a', c', rfl⟩ := own_shape k1
 exact h a' _ c' w' k1 k2 k3
theorem infoInt' : (Tryz.prog.info? 3).map (fun i => (i.zero, i.size, i.bytes)) = some (some (.int .i64 0), 1, 8) := by kernel_rfl
theorem wpList_append_in1 {w : World} {ops : Array Oper} {rest : List Oper} {o : Oper} {a : Act} {Q : Exit → Act → World → Prop} (hgd : o.guard = none) (s x : Operand)
  (ho : o.op = .call { callee := .builtin .append, args := #[s, x], argTypes := #[34, 34] }) (v : Value) (n : Nat) (xs : List Value) (hs : a.eval s = v) (hown : w.ownsRow 0 3 1 v n xs)
  (g : Nat) (z : Int) (hx : a.eval x = .slice (some ⟨g, 0, none⟩) 1 1) (hB : Bk w g 3 [.int .i64 z]) (hb : n ≤ 1048576)
  (h : ∀ a' n' c' w', w'.ownsRow 0 3 1 (.slice a' n' c') (n + 1) (xs ++ [.int .i64 z]) → w.grownBy w' v.ownBlock → ((Value.slice a' n' c').ownBlock = v.ownBlock ∨ (Value.slice a' n' c').ownBlock = some w.heap.size) → wpList Tryz.prog ops Q rest (a.put o.dst (.slice a' n' c')) w') : wpList Tryz.prog ops Q (o :: rest) a w := by
 obtain ⟨i, hi, hz, hsz, hby⟩ := info_of infoInt'
 refine wpList_append_row_at hgd s x 34 ho 0 3 i _ 1 8 Tryz.underlying34 hi hz hsz hby rfl (by decide) v n xs hs hown (fun _ => True) _ 1 [.int .i64 z] hx (hB.rw (Nat.le_refl _) (by omega) (fun h => by omega) _ trivial) rfl
  (by intro u hu; simp at hu; subst hu; rfl) (by unfold maxLen; omega) (by omega) (Nat.zero_le _) ?_
 intro v' w' k1 k2 k3
 obtain ⟨a', c', rfl⟩ := own_shape k1
 exact h a' _ c' w' k1 k2 k3
open Go.RowKit
set_option linter.unusedVariables false
theorem step_append_g {P : Program} {w : World} {ops : Array Oper} {o : Oper} {a : Act} {K : Act → World → Prop} {Q : Exit → Act → World → Prop} {E : Prop} (hgd : o.guard = none) (s x : Operand) (t : TypeId)
  (ho : o.op = .call { callee := .builtin .append, args := #[s, x], argTypes := #[t, t] }) (B : Nat) (e : TypeId) (z : Value) (size bytes : Nat) (ht : P.underlying t = some (.slice e)) (hinfo : (P.info? e).map (fun i => (i.zero, i.size, i.bytes)) = some (some z, size, bytes)) (hzs : z.cells.size = size) (hsz : 0 < size) (hby : bytes ≤ 64)
  (v : Value) (n : Nat) (xs : List Value) (hs : a.eval s = v) (hown : w.ownsRow B e size v n xs) (g : Nat) (news : List Value) (hx : a.eval x = .slice (some ⟨g, 0, none⟩) 1 1) (hB : Rw w (fun _ => True) (.slice (some ⟨g, 0, none⟩) 1 1) 1 news) (hl : news.length = size) (h1 : ∀ u ∈ news, u.oneCell' = true) (hb : n ≤ 1048576) (hbase : B ≤ w.heap.size)
  (b0 o0 : Nat) (x0 : Value) (hc0 : w.cell? ⟨b0, o0, none⟩ = some x0) (hf0 : w.frozen? ⟨b0, o0, none⟩ = false) (hne : v.ownBlock ≠ some b0)
  (h : ∀ a' n' c' w', w'.ownsRow B e size (.slice a' n' c') (n + 1) (xs ++ news) → w.grownBy w' v.ownBlock → ((Value.slice a' n' c').ownBlock = v.ownBlock ∨ (Value.slice a' n' c').ownBlock = some w.heap.size) → w'.cell? ⟨b0, o0, none⟩ = some x0 → w'.frozen? ⟨b0, o0, none⟩ = false → K (a.put o.dst (.slice a' n' c')) w') :
  if Region.wanted o (yielded ops a.tmps) = true then Oper.wp P o a w K Q else E := by
 have hw : Region.wanted o (yielded ops a.tmps) = true := by simp [Region.wanted, hgd]
 rw [if_pos hw]
 obtain ⟨i, hi, hz, hsz', hby'⟩ := info_of hinfo
 obtain ⟨v', w', hr, h2, h3, h5⟩ := run_append_row_at (P := P) (w := w) B t o.type e i z size bytes ht hi hz hsz' hby' hzs hsz v n xs hown (fun _ => True) _ 1 news hB (by omega) h1 (by unfold maxLen; omega) (by have := Nat.mul_le_mul (show n + 1 ≤ 1048577 by omega) hby; omega) hbase
 obtain ⟨a', c', rfl⟩ := own_shape h2
 have hbl := h3.block b0 (block_lt hc0) (fun e => hne e.symm)
 unfold Oper.wp execOp
 simp only [ho, resolve, invoke, builtin, Sem.run_bind, Sem.run_pure, Result.andThen_ok, List.map_toArray, List.map_cons, List.map_nil, hs, hx, hr]
 exact h a' _ c' w' h2 h3 h5 ((World.cell?_of_block (w := w) (a := ⟨b0, o0, none⟩) hbl).trans hc0) ((World.frozen?_of_block (w := w) (a := ⟨b0, o0, none⟩) hbl).trans hf0)
theorem step_append_rd {w : World} {ops : Array Oper} {o : Oper} {a : Act} {K : Act → World → Prop} {Q : Exit → Act → World → Prop} {E : Prop} (hgd : o.guard = none) (s x : Operand)
  (ho : o.op = .call { callee := .builtin .append, args := #[s, x], argTypes := #[89, 89] }) (base : Nat) (v : Value) (zs : List Int) (hs : a.eval s = v) (hown : Ob w base v zs)
  (ao : Option Addr) (m c : Nat) (ys : List Int) (hx : a.eval x = .slice ao m c) (hsrc : Rd w ao m c ys) (hb : zs.length + ys.length ≤ 70368744177664) (hbase : base ≤ w.heap.size)
  (h : ∀ a' n' c' w', Ob w' base (.slice a' n' c') (zs ++ ys) → w.grownBy w' v.ownBlock → K (a.put o.dst (.slice a' n' c')) w') : if Region.wanted o (yielded ops a.tmps) = true then Oper.wp Tryz.prog o a w K Q else E := by
 have hw : Region.wanted o (yielded ops a.tmps) = true := by simp [Region.wanted, hgd]
 rw [if_pos hw]
 obtain ⟨v', w', hr, h2, h3⟩ := run_append_rd (w := w) o.type base v zs hown ao m c ys hsrc hb hbase
 obtain ⟨a', c', rfl⟩ := h2.shape
 unfold Oper.wp execOp
 simp only [ho, resolve, invoke, builtin, Sem.run_bind, Sem.run_pure, Result.andThen_ok, List.map_toArray, List.map_cons, List.map_nil, hs, hx, hr]
 exact h a' _ c' w' h2 h3
theorem bt7 {u v w : World} (h : Below u.heap.size u v) (k : Below v.heap.size v w) : Below u.heap.size u w := h.trans (k.mono h.size)
set_option maxHeartbeats 1000000 in
theorem copyB_any (a : Option Addr) (n c : Nat) (zs : List Int) (w : World) (h : Rd w a n c zs) (hn : n ≤ 1048576) :
  Calls Tryz.prog 78 #[.slice a n c] w fun e w' => ∃ a' n' c', e = .returned (.slice a' n' c') ∧ Ob w' w.heap.size (.slice a' n' c') zs ∧ Below w.heap.size w w' := by
 have HR := hid h
 have hzl : n = zs.length := h.1
 have HO : Hid (Ob w w.heap.size (.slice none 0 0) []) := World.ownsRow_nil _ _ _ _
 have hzb : ([] : List Int).length + zs.length ≤ 70368744177664 := by rw [← hzl]; simp; omega
 clear h hzl
 go_enter Tryz.func78, Tryz.ntmps78
 go_wp2_with (at_builtin; refine wpList_append_rd rfl _ _ rfl w.heap.size _ [] rfl HO.out a n c zs rfl HR.out hzb (Nat.le_refl _) ?_)
 intro v3 w3 hO3 hg3
 have O3 : Hid (Ob w3 w.heap.size v3 zs) := by show Ob _ _ _ _; simpa using hO3
 have B3 : Hid (Below w.heap.size w w3) := (only_of_grown hg3 (R := fun _ => False) (fun k e => by cases e)).below (Nat.le_refl _) (fun _ _ h => h)
 obtain ⟨a3, c3, rfl⟩ := hO3.shape
 clear hO3 hg3 HO HR
 go_wp2
 go_ret
 exact ⟨_, _, _, rfl, O3.out, B3.out⟩
structure CX (w v : World) (sa : Option Addr) (sn sc : Nat) (da : Option Addr) (dn dc : Nat) (xa : Option Addr) (xn xc : Nat) (ya : Option Addr) (yn yc : Nat) (V : List Value) (U : List (Int × Value)) (d : DK) : Prop where
 bel : Below w.heap.size w v
 k0 : Bk v w.heap.size 30 [.slice sa sn sc, .slice da dn dc]
 k1 : Bk v (w.heap.size + 1) 30 [.slice none 0 0, .slice none 0 0]
 k2 : Bk v (w.heap.size + 1 + 1) 30 [.slice xa xn xc, .slice ya yn yc]
 own : DO v (w.heap.size + 3) (.slice xa xn xc) V (.slice ya yn yc) U d
theorem CX.below {w v v' : World} {sa : Option Addr} {sn sc : Nat} {da : Option Addr} {dn dc : Nat} {xa : Option Addr} {xn xc : Nat} {ya : Option Addr} {yn yc : Nat} {V : List Value} {U : List (Int × Value)} {d : DK} (h : CX w v sa sn sc da dn dc xa xn xc ya yn yc V U d) (hb : Below v.heap.size v v') : CX w v' sa sn sc da dn dc xa xn xc ya yn yc V U d :=
 ⟨bt7 h.bel hb, h.k0.below hb, h.k1.below hb, h.k2.below hb, h.own.below hb⟩
theorem CX.start (w : World) (sa : Option Addr) (sn sc : Nat) (da : Option Addr) (dn dc : Nat) : CX w (((w.alloc (.cells #[.slice sa sn sc, .slice da dn dc] 30)).alloc (.cells #[.slice none 0 0, .slice none 0 0] 30)).alloc (.cells #[.slice none 0 0, .slice none 0 0] 30)) sa sn sc da dn dc none 0 0 none 0 0 [] [] ⟨[], []⟩ := by
 refine ⟨below_new (below_new (below_new (Below.refl _ _))), ((Bk.new w 30 [.slice sa sn sc, .slice da dn dc]).alloc _).alloc _, ?_, ?_, do_nil _ _⟩
 ·have := (Bk.new (w.alloc (.cells #[.slice sa sn sc, .slice da dn dc] 30)) 30 [.slice none 0 0, .slice none 0 0]).alloc (.cells #[.slice none 0 0, .slice none 0 0] 30)
  simpa using this
 ·have := Bk.new ((w.alloc (.cells #[.slice sa sn sc, .slice da dn dc] 30)).alloc (.cells #[.slice none 0 0, .slice none 0 0] 30)) 30 [.slice none 0 0, .slice none 0 0]
  simpa using this
theorem CX.pushS {w v u w5 : World} {sa : Option Addr} {sn sc : Nat} {da : Option Addr} {dn dc : Nat} {xa : Option Addr} {xn xc : Nat} {ya : Option Addr} {yn yc : Nat} {V : List Value} {U : List (Int × Value)} {ss : List (List Int)} {ds : List DW} (h : CX w v sa sn sc da dn dc xa xn xc ya yn yc V U ⟨ss, ds⟩) (hb : Below v.heap.size v u) (x : List Int) (p : Value) (hx : Ob u v.heap.size p x) (hxb : byt x)
  {a5 : Option Addr} {n5 c5 : Nat} (ho : w5.ownsRow (w.heap.size + 3) 102 1 (.slice a5 n5 c5) (ss.length + 1) (V ++ [p])) (hg : u.grownBy w5 (Value.slice xa xn xc).ownBlock) (ha : (Value.slice a5 n5 c5).ownBlock = (Value.slice xa xn xc).ownBlock ∨ (Value.slice a5 n5 c5).ownBlock = some u.heap.size) :
  CX w (w5.setCell ⟨w.heap.size + 1 + 1, 0, none⟩ (.slice a5 n5 c5)) sa sn sc da dn dc a5 n5 c5 ya yn yc (V ++ [p]) U ⟨ss ++ [x], ds⟩ := by
 have hu := h.below hb
 have hv3 : w.heap.size + 3 ≤ v.heap.size := h.k2.lt
 have hlt := hb.size
 have o : Only (fun y => (Value.slice xa xn xc).ownBlock = some y) u w5 := only_of_grown hg (fun k e => e)
 have hxo : ∀ y, (Value.slice xa xn xc).ownBlock = some y → w.heap.size + 3 ≤ y ∧ y < v.heap.size := fun y e => World.ownsRow.lt h.own.hs.row y e
 have hnew : ∀ y, p.ownBlock = some y → v.heap.size ≤ y ∧ y < u.heap.size := fun y e => World.ownsRow.lt hx y e
 have hS := hu.own.hs.push x p (ownD_base hx (by omega)) hxb (fun y e e2 => by have h1 := hnew y e; have h2 := (h.own.hs.lt e2).2; omega) ho hg ha
 have hW := hu.own.hd.to o (fun y e e2 => hu.own.ap y (.inl e2) e)
 have hne : ∀ y, (Value.slice xa xn xc).ownBlock = some y → y ≠ w.heap.size ∧ y ≠ w.heap.size + 1 ∧ y ≠ w.heap.size + 1 + 1 := fun y e => by have := (hxo y e).1; omega
 have k0 := hu.k0.to o (fun e => (hne _ e).1 rfl)
 have k1 := hu.k1.to o (fun e => (hne _ e).2.1 rfl)
 have k2 := hu.k2.to o (fun e => (hne _ e).2.2 rfl)
 have b5 : Below w.heap.size w w5 := hu.bel.trans (o.below hu.bel.size (fun y hy e => by have := (hxo y e).1; omega))
 have o2 : Only (fun y => y = w.heap.size + 1 + 1) w5 (w5.setCell ⟨w.heap.size + 1 + 1, 0, none⟩ (.slice a5 n5 c5)) := only_set (R := fun y => y = w.heap.size + 1 + 1) rfl _
 refine ⟨b5.setCell (p := ⟨w.heap.size + 1 + 1, 0, none⟩) (by show w.heap.size ≤ w.heap.size + 1 + 1; omega) _, k0.setOther (by omega) _ _, k1.setOther (by omega) _ _, k2.set 0 _, ?_, ?_, ?_⟩
 ·exact hS.to o2 (fun y e e2 => by have := (hS.lt e).1; omega)
 ·exact hW.to o2 (fun y e e2 => by have := (hW.lt e).1; omega)
 ·intro y hy hz
  have h3 := (h.own.hd.lt hz).2
  rcases hy with e | ⟨i, hi, e⟩
  ·rcases ha with ha | ha
   ·rw [ha] at e; exact h.own.ap y (.inl e) hz
   ·rw [ha] at e; cases e; omega
  ·rw [List.length_append] at hi
   by_cases hi2 : i < V.length
   ·rw [uAt_left hi2] at e; exact h.own.ap y (.inr ⟨i, hi2, e⟩) hz
   ·obtain rfl : i = V.length := by simp at hi; omega
    rw [uAt_end] at e
    have := (hnew y e).1
    omega
theorem CX.pushW {w v u w5 : World} {sa : Option Addr} {sn sc : Nat} {da : Option Addr} {dn dc : Nat} {xa : Option Addr} {xn xc : Nat} {ya : Option Addr} {yn yc : Nat} {V : List Value} {U : List (Int × Value)} {ss : List (List Int)} {ds : List DW} (h : CX w v sa sn sc da dn dc xa xn xc ya yn yc V U ⟨ss, ds⟩) (hb : Below v.heap.size v u) (t : Int) (x : List Int) (p : Value) (hx : Ob u v.heap.size p x) (hxb : byt x)
  {a5 : Option Addr} {n5 c5 : Nat} (ho : w5.ownsRow (w.heap.size + 3) 103 2 (.slice a5 n5 c5) (ds.length + 1) (wcs U ++ [.int .i64 t, p])) (hg : u.grownBy w5 (Value.slice ya yn yc).ownBlock) (ha : (Value.slice a5 n5 c5).ownBlock = (Value.slice ya yn yc).ownBlock ∨ (Value.slice a5 n5 c5).ownBlock = some u.heap.size) :
  CX w (w5.setCell ⟨w.heap.size + 1 + 1, 1, none⟩ (.slice a5 n5 c5)) sa sn sc da dn dc xa xn xc a5 n5 c5 V (U ++ [(t, p)]) ⟨ss, ds ++ [(t, x)]⟩ := by
 have hu := h.below hb
 have hv3 : w.heap.size + 3 ≤ v.heap.size := h.k2.lt
 have hlt := hb.size
 have o : Only (fun y => (Value.slice ya yn yc).ownBlock = some y) u w5 := only_of_grown hg (fun k e => e)
 have hxo : ∀ y, (Value.slice ya yn yc).ownBlock = some y → w.heap.size + 3 ≤ y ∧ y < v.heap.size := fun y e => World.ownsRow.lt h.own.hd.row y e
 have hnew : ∀ y, p.ownBlock = some y → v.heap.size ≤ y ∧ y < u.heap.size := fun y e => World.ownsRow.lt hx y e
 have hW := hu.own.hd.push t x p (ownD_base hx (by omega)) hxb (fun y e e2 => by have h1 := hnew y e; have h2 := (h.own.hd.lt e2).2; omega) ho hg ha
 have hS := hu.own.hs.to o (fun y e e2 => hu.own.ap y e (.inl e2))
 have hne : ∀ y, (Value.slice ya yn yc).ownBlock = some y → y ≠ w.heap.size ∧ y ≠ w.heap.size + 1 ∧ y ≠ w.heap.size + 1 + 1 := fun y e => by have := (hxo y e).1; omega
 have k0 := hu.k0.to o (fun e => (hne _ e).1 rfl)
 have k1 := hu.k1.to o (fun e => (hne _ e).2.1 rfl)
 have k2 := hu.k2.to o (fun e => (hne _ e).2.2 rfl)
 have b5 : Below w.heap.size w w5 := hu.bel.trans (o.below hu.bel.size (fun y hy e => by have := (hxo y e).1; omega))
 have o2 : Only (fun y => y = w.heap.size + 1 + 1) w5 (w5.setCell ⟨w.heap.size + 1 + 1, 1, none⟩ (.slice a5 n5 c5)) := only_set (R := fun y => y = w.heap.size + 1 + 1) rfl _
 refine ⟨b5.setCell (p := ⟨w.heap.size + 1 + 1, 1, none⟩) (by show w.heap.size ≤ w.heap.size + 1 + 1; omega) _, k0.setOther (by omega) _ _, k1.setOther (by omega) _ _, k2.set 1 _, ?_, ?_, ?_⟩
 ·exact hS.to o2 (fun y e e2 => by have := (hS.lt e).1; omega)
 ·exact hW.to o2 (fun y e e2 => by have := (hW.lt e).1; omega)
 ·intro y hy hz
  have h3 := (h.own.hs.lt hy).2
  rcases hz with e | ⟨i, hi, e⟩
  ·rcases ha with ha | ha
   ·rw [ha] at e; exact h.own.ap y hy (.inl e)
   ·rw [ha] at e; cases e; omega
  ·rw [List.length_append] at hi
   by_cases hi2 : i < U.length
   ·rw [xAt_left hi2] at e; exact h.own.ap y hy (.inr ⟨i, hi2, e⟩)
   ·obtain rfl : i = U.length := by simp at hi; omega
    rw [xAt_end] at e
    have := (hnew y e).1
    omega
theorem take_sh {ss : List (List Int)} {k : Nat} (h : k < ss.length) : ss.take (k + 1) = ss.take k ++ [shAt ss k] := by
 rw [List.take_succ_eq_append_getElem h]; simp [shAt, h]
theorem take_dw {ds : List DW} {k : Nat} (h : k < ds.length) : ds.take (k + 1) = ds.take k ++ [((dwAt ds k).1, (dwAt ds k).2)] := by
 rw [List.take_succ_eq_append_getElem h]; congr 1; simp [dwAt, h]
theorem rw_one {w : World} {g : Nat} {T : TypeId} {p : Value} (h : Bk w g T [p]) : Rw w (fun _ => True) (.slice (some ⟨g, 0, none⟩) 1 1) 1 [p] := h.rw (Nat.le_refl _) (by omega) (fun h => by omega) _ trivial
theorem rw_two {w : World} {g : Nat} {T : TypeId} {p q : Value} (h : Bk w g T [p, q]) : Rw w (fun _ => True) (.slice (some ⟨g, 0, none⟩) 1 1) 1 [p, q] := h.rw (Nat.le_refl _) (by omega) (fun h => by omega) _ trivial
open Go.RowKit
set_option linter.unusedVariables false
set_option maxHeartbeats 16000000 in
set_option maxRecDepth 20000 in
theorem l05Copy_any (S : Nat → Prop) (sa : Option Addr) (sn sc : Nat) (da : Option Addr) (dn dc : Nat) (d : DK) (w : World) (h : Dk w S sa sn sc da dn dc d) (hsm : smallD d) (h1 : sn ≤ 1048576) (h2 : dn ≤ 1048576) :
  Calls Tryz.prog 25 #[.agg #[.slice sa sn sc, .slice da dn dc]] w fun e w' => DkPost1 d w e w' := by
 have HS := hid h.hs
 have HD := hid h.hd
 have HSM := hid hsm
 have HNS := hid h.hs.len.1
 have HND := hid h.hd.len.1
 have C0 := hid (CX.start w sa sn sc da dn dc)
 clear h hsm
 go_enter Tryz.func25, Tryz.ntmps25
 go_wp2_with fail
 go_loopw [12] (fun i wr => ∃ (k : Nat) (xa : Option Addr) (xn xc : Nat) (V : List Value), k ≤ sn ∧ i = .int .i64 k ∧ Hid (CX w wr sa sn sc da dn dc xa xn xc none 0 0 V [] ⟨d.sh.take k, []⟩)) (fun i _ => sn - (intOf i).toNat)
 case atStart => exact ⟨0, none, 0, 0, [], Nat.zero_le _, rfl, C0.out⟩
 case round =>
  obtain ⟨k, xa, xn, xc, V, hk, rfl, CC⟩ := hrel
  clear C0
  by_cases hlt : k < sn
  ·have hlt' : (k : Int) < (sn : Int) := by omega
   obtain ⟨b, off, rfl, _, hbw, hcell⟩ := (HS.out.below CC.out.bel).at (by omega)
   obtain ⟨ap, np, cp, m0, hp⟩ := hcell k hlt
   have hkl : k < d.sh.length := by rw [← HNS.out]; exact hlt
   have hnp : np ≤ 1048576 := by rw [hp.len.1]; exact HSM.out.1 k hkl
   have hb0 := below_new (o := .cells #[.slice ap np cp] 102) (w := wr) (Below.refl _ _)
   have CU := hid (CC.out.below hb0)
   have HBY := hid hp.2
   have HL : Hid ((d.sh.take k).length = k) := by show _ = _; rw [List.length_take]; omega
   have HTK := hid (take_sh hkl)
   have HBX : Hid (∀ z, Below (wr.alloc (.cells #[.slice ap np cp] 102)).heap.size (wr.alloc (.cells #[.slice ap np cp] 102)) z → z.cell? ⟨w.heap.size + 1 + 1, 0, none⟩ = some (.slice xa xn xc) ∧ z.frozen? ⟨w.heap.size + 1 + 1, 0, none⟩ = false ∧ z.ownsRow (w.heap.size + 3) 102 1 (.slice xa xn xc) k V) := fun z hz => by
    have c := CU.out.below hz
    refine ⟨c.k2.cell (j := 0) rfl, c.k2.free 0, ?_⟩
    have := c.own.hs.row
    rwa [HL.out] at this
   have SS : Hid (w.heap.size + 1 + 1 < wr.heap.size) := CC.out.k2.lt
   have HNE : Hid ((Value.slice xa xn xc).ownBlock ≠ some (w.heap.size + 1 + 1)) := fun e => by have := (World.ownsRow.lt CC.out.own.hs.row _ e).1; omega
   have HFIN : Hid (∀ (w4 : World) (a4 : Option Addr) (n4 c4 : Nat) (a5 : Option Addr) (n5 c5 : Nat) (w5 : World), Ob w4 (wr.alloc (.cells #[.slice ap np cp] 102)).heap.size (.slice a4 n4 c4) (shAt d.sh k) → Below (wr.alloc (.cells #[.slice ap np cp] 102)).heap.size (wr.alloc (.cells #[.slice ap np cp] 102)) w4 → w5.ownsRow (w.heap.size + 3) 102 1 (.slice a5 n5 c5) (k + 1) (V ++ [.slice a4 n4 c4]) → (w4.alloc (.cells #[.slice a4 n4 c4] 102)).grownBy w5 (Value.slice xa xn xc).ownBlock → ((Value.slice a5 n5 c5).ownBlock = (Value.slice xa xn xc).ownBlock ∨ (Value.slice a5 n5 c5).ownBlock = some (w4.alloc (.cells #[.slice a4 n4 c4] 102)).heap.size) →
     CX w (w5.setCell ⟨w.heap.size + 1 + 1, 0, none⟩ (.slice a5 n5 c5)) (some ⟨b, off, none⟩) sn sc da dn dc a5 n5 c5 none 0 0 (V ++ [.slice a4 n4 c4]) [] ⟨d.sh.take (k + 1), []⟩) := by
    intro w4 a4 n4 c4 a5 n5 c5 w5 hO4 hb4 hO5 hg5 ha5
    rw [HTK.out]
    have hbn := below_new (o := .cells #[.slice a4 n4 c4] 102) (w := w4) (Below.refl _ _)
    exact CU.out.pushS (bt7 hb4 hbn) _ _ (own_kept hO4 (only_of_below hbn (fun _ => False)) (fun _ _ h => h)) HBY.out (by rw [HL.out]; exact hO5) hg5 ha5
   have c1 := CC.out.k2.cell (j := 0) rfl
   have s1 := SS.out
   have s1b : w.heap.size + 1 + 1 < wr.heap.size + 1 := by omega
   have hk6 : k ≤ 1048576 := by omega
   have HS4 : Hid (∀ z, Below (wr.alloc (.cells #[.slice ap np cp] 102)).heap.size (wr.alloc (.cells #[.slice ap np cp] 102)) z → w.heap.size + 1 + 1 < z.heap.size) := fun z hz => by have h1 := hz.size; have h2 := CU.out.k2.lt; omega
   have HS5 : Hid (∀ z, Below (wr.alloc (.cells #[.slice ap np cp] 102)).heap.size (wr.alloc (.cells #[.slice ap np cp] 102)) z → wr.heap.size < z.heap.size) := fun z hz => by have h1 := hz.size; simp at h1; omega
   have hbe : Below (wr.alloc (.cells #[.slice ap np cp] 102)).heap.size (wr.alloc (.cells #[.slice ap np cp] 102)) ((wr.alloc (.cells #[.slice ap np cp] 102)).alloc (.cells #[] 5)).drew := bt7 (below_new (Below.refl _ _)) (below_drew _)
   have HUS : Hid ((wr.alloc (.cells #[.slice ap np cp] 102)).heap.size = wr.heap.size + 1) := by show _ = _; simp
   have HOB : Hid (Ob ((wr.alloc (.cells #[.slice ap np cp] 102)).alloc (.cells #[] 5)).drew (wr.heap.size + 1) (.slice (some ⟨wr.heap.size + 1, 0, none⟩) 0 0) []) := by
    have := ob_new (wr.alloc (.cells #[.slice ap np cp] 102)) (wr.alloc (.cells #[.slice ap np cp] 102)).heap.size (Nat.le_refl _)
    rw [HUS.out] at this
    exact own_kept this (only_of_below (below_drew _) (fun _ => False)) (fun _ _ h => h)
   have HRD2 : Hid (Rd ((wr.alloc (.cells #[.slice ap np cp] 102)).alloc (.cells #[] 5)).drew ap np cp (shAt d.sh k)) := (hp.rd hnp).kept (bt7 hb0 hbe)
   have hzb : ([] : List Int).length + (shAt d.sh k).length ≤ 70368744177664 := by rw [← hp.len.1]; simp; omega
   have HZ2 : Hid (wr.heap.size + 1 ≤ ((wr.alloc (.cells #[.slice ap np cp] 102)).alloc (.cells #[] 5)).drew.heap.size) := by have := hbe.size; rw [HUS.out] at this; exact this
   have HB4 : Hid (∀ w4 : World, ((wr.alloc (.cells #[.slice ap np cp] 102)).alloc (.cells #[] 5)).drew.grownBy w4 (Value.slice (some ⟨wr.heap.size + 1, 0, none⟩) 0 0).ownBlock → Below (wr.alloc (.cells #[.slice ap np cp] 102)).heap.size (wr.alloc (.cells #[.slice ap np cp] 102)) w4) := fun w4 hg => hbe.trans ((only_of_grown hg (R := fun y => (Value.slice (some ⟨wr.heap.size + 1, 0, none⟩) 0 0).ownBlock = some y) (fun k e => e)).below hbe.size (fun y hy e => by have e' : wr.heap.size + 1 = y := (by simpa [Value.ownBlock] using e); rw [HUS.out] at hy; omega))
   have HCV : Hid (∀ (w4 : World) (v4 : Value), Ob w4 (wr.heap.size + 1) v4 ([] ++ (shAt d.sh k)) → Ob w4 (wr.alloc (.cells #[.slice ap np cp] 102)).heap.size v4 (shAt d.sh k)) := fun w4 v4 hO => by rw [HUS.out]; simpa using hO
   clear hbe
   have HSZ : Hid (∀ z, Below (wr.alloc (.cells #[.slice ap np cp] 102)).heap.size (wr.alloc (.cells #[.slice ap np cp] 102)) z → w.heap.size + 3 ≤ z.heap.size) := fun z hz => by have h1 := hz.size; have h2 := CU.out.k2.lt; omega
   clear hcell hbw hp hb0 CC HBY
   go_wp2_with fail
   go_region_law (first
    | (refine step_append_rd rfl _ _ rfl (wr.heap.size + 1) _ [] rfl HOB.out ap np cp (shAt d.sh k) rfl HRD2.out hzb HZ2.out ?_; intro a4 n4 c4 w4 hO4 hg4; have hb4 := HB4.out w4 hg4; have q1 := (HBX.out w4 hb4).1; have s4 := HS4.out w4 hb4)
    | (refine step_append_g rfl _ _ _ rfl (w.heap.size + 3) 102 (.agg #[.slice none 0 0]) 1 24 Tryz.underlying27 infoSheetI rfl (by decide) (by decide) (.slice xa xn xc) k V rfl (HBX.out _ (bt7 hb4 (below_new (Below.refl _ _)))).2.2 w4.heap.size [.slice a4 n4 c4] rfl (rw_one (Bk.new w4 _ [_])) rfl (by intro u hu; simp at hu; subst hu; rfl) hk6 (HSZ.out _ (bt7 hb4 (below_new (Below.refl _ _)))) (w.heap.size + 1 + 1) 0 _ (HBX.out _ (bt7 hb4 (below_new (Below.refl _ _)))).1 (HBX.out _ (bt7 hb4 (below_new (Below.refl _ _)))).2.1 HNE.out ?_; intro a5 n5 c5 w5 hO5 hg5 ha5 hc5 hf5))
   all_goals go_wp2
   all_goals exact ⟨⟨k + 1, a5, n5, c5, _, by omega, by go_num, HFIN.out w4 a4 n4 c4 a5 n5 c5 w5 (HCV.out _ _ hO4) hb4 hO5 hg5 ha5⟩, by simp [intOf]; omega⟩
  ·have hks : k = d.sh.length := by rw [← HNS.out]; omega
   have CD : Hid (CX w wr sa sn sc da dn dc xa xn xc none 0 0 V [] ⟨d.sh, []⟩) := by
    have := CC.out
    rwa [hks, List.take_length] at this
   clear CC hks
   have d1 := CD.out.k0.cell (j := 1) rfl
   go_wp2_with fail
   clear d1
   go_loopw [30] (fun i wr => ∃ (j : Nat) (ya : Option Addr) (yn yc : Nat) (Uu : List (Int × Value)), j ≤ dn ∧ i = .int .i64 j ∧ Hid (CX w wr sa sn sc da dn dc xa xn xc ya yn yc V Uu ⟨d.sh, d.dw.take j⟩)) (fun i _ => dn - (intOf i).toNat)
   case atStart => exact ⟨0, none, 0, 0, [], Nat.zero_le _, rfl, CD.out⟩
   case round =>
    clear CD
    obtain ⟨j, ya, yn, yc, Uu, hj, rfl, CC⟩ := hrel
    by_cases hlt2 : j < dn
    ·have hlt' : (j : Int) < (dn : Int) := by omega
     obtain ⟨b, off, rfl, _, hbw, hcell⟩ := (HD.out.below CC.out.bel).at (by omega)
     obtain ⟨ap, np, cp, mt, m0, hp⟩ := hcell j hlt2
     have hkl : j < d.dw.length := by rw [← HND.out]; exact hlt2
     have hnp : np ≤ 1048576 := by rw [hp.len.1]; exact HSM.out.2 j hkl
     have HTK := hid (take_dw hkl)
     generalize (dwAt d.dw j).1 = tt at *
     have hb0 := below_new (o := .cells #[.int .i64 tt, .slice ap np cp] 103) (w := wr) (Below.refl _ _)
     have CU := hid (CC.out.below hb0)
     have HBY := hid hp.2
     have HL : Hid ((d.dw.take j).length = j) := by show _ = _; rw [List.length_take]; omega
     have HBX : Hid (∀ z, Below (wr.alloc (.cells #[.int .i64 tt, .slice ap np cp] 103)).heap.size (wr.alloc (.cells #[.int .i64 tt, .slice ap np cp] 103)) z → z.cell? ⟨w.heap.size + 1 + 1, 1, none⟩ = some (.slice ya yn yc) ∧ z.frozen? ⟨w.heap.size + 1 + 1, 1, none⟩ = false ∧ z.ownsRow (w.heap.size + 3) 103 2 (.slice ya yn yc) j (wcs Uu) ∧ z.cell? ⟨wr.heap.size, 0, none⟩ = some (.int .i64 tt)) := fun z hz => by
      have c := CU.out.below hz
      refine ⟨c.k2.cell (j := 1) rfl, c.k2.free 1, ?_, ((Bk.new wr 103 [.int .i64 tt, .slice ap np cp]).below hz).cell (j := 0) rfl⟩
      have := c.own.hd.row
      rwa [HL.out] at this
     have SS : Hid (w.heap.size + 1 + 1 < wr.heap.size) := CC.out.k2.lt
     have HNE : Hid ((Value.slice ya yn yc).ownBlock ≠ some (w.heap.size + 1 + 1)) := fun e => by have := (World.ownsRow.lt CC.out.own.hd.row _ e).1; omega
     have HFIN : Hid (∀ (w4 : World) (a4 : Option Addr) (n4 c4 : Nat) (a5 : Option Addr) (n5 c5 : Nat) (w5 : World), Ob w4 (wr.alloc (.cells #[.int .i64 tt, .slice ap np cp] 103)).heap.size (.slice a4 n4 c4) (dwAt d.dw j).2 → Below (wr.alloc (.cells #[.int .i64 tt, .slice ap np cp] 103)).heap.size (wr.alloc (.cells #[.int .i64 tt, .slice ap np cp] 103)) w4 → w5.ownsRow (w.heap.size + 3) 103 2 (.slice a5 n5 c5) (j + 1) (wcs Uu ++ [.int .i64 tt, .slice a4 n4 c4]) → (w4.alloc (.cells #[.int .i64 tt, .slice a4 n4 c4] 103)).grownBy w5 (Value.slice ya yn yc).ownBlock → ((Value.slice a5 n5 c5).ownBlock = (Value.slice ya yn yc).ownBlock ∨ (Value.slice a5 n5 c5).ownBlock = some (w4.alloc (.cells #[.int .i64 tt, .slice a4 n4 c4] 103)).heap.size) →
       CX w (w5.setCell ⟨w.heap.size + 1 + 1, 1, none⟩ (.slice a5 n5 c5)) sa sn sc (some ⟨b, off, none⟩) dn dc xa xn xc a5 n5 c5 V (Uu ++ [(tt, .slice a4 n4 c4)]) ⟨d.sh, d.dw.take (j + 1)⟩) := by
      intro w4 a4 n4 c4 a5 n5 c5 w5 hO4 hb4 hO5 hg5 ha5
      rw [HTK.out]
      have hbn := below_new (o := .cells #[.int .i64 tt, .slice a4 n4 c4] 103) (w := w4) (Below.refl _ _)
      exact CU.out.pushW (bt7 hb4 hbn) tt _ _ (own_kept hO4 (only_of_below hbn (fun _ => False)) (fun _ _ h => h)) HBY.out (by rw [HL.out]; exact hO5) hg5 ha5
     have c1 := CC.out.k2.cell (j := 1) rfl
     have s1 := SS.out
     have s1b : w.heap.size + 1 + 1 < wr.heap.size + 1 := by omega
     have hk6 : j ≤ 1048576 := by omega
     have HS4 : Hid (∀ z, Below (wr.alloc (.cells #[.int .i64 tt, .slice ap np cp] 103)).heap.size (wr.alloc (.cells #[.int .i64 tt, .slice ap np cp] 103)) z → w.heap.size + 1 + 1 < z.heap.size) := fun z hz => by have h1 := hz.size; have h2 := CU.out.k2.lt; omega
     have HS5 : Hid (∀ z, Below (wr.alloc (.cells #[.int .i64 tt, .slice ap np cp] 103)).heap.size (wr.alloc (.cells #[.int .i64 tt, .slice ap np cp] 103)) z → wr.heap.size < z.heap.size) := fun z hz => by have h1 := hz.size; simp at h1; omega
     have hbe : Below (wr.alloc (.cells #[.int .i64 tt, .slice ap np cp] 103)).heap.size (wr.alloc (.cells #[.int .i64 tt, .slice ap np cp] 103)) ((wr.alloc (.cells #[.int .i64 tt, .slice ap np cp] 103)).alloc (.cells #[] 5)).drew := bt7 (below_new (Below.refl _ _)) (below_drew _)
     have HUS : Hid ((wr.alloc (.cells #[.int .i64 tt, .slice ap np cp] 103)).heap.size = wr.heap.size + 1) := by show _ = _; simp
     have HOB : Hid (Ob ((wr.alloc (.cells #[.int .i64 tt, .slice ap np cp] 103)).alloc (.cells #[] 5)).drew (wr.heap.size + 1) (.slice (some ⟨wr.heap.size + 1, 0, none⟩) 0 0) []) := by
      have := ob_new (wr.alloc (.cells #[.int .i64 tt, .slice ap np cp] 103)) (wr.alloc (.cells #[.int .i64 tt, .slice ap np cp] 103)).heap.size (Nat.le_refl _)
      rw [HUS.out] at this
      exact own_kept this (only_of_below (below_drew _) (fun _ => False)) (fun _ _ h => h)
     have HRD2 : Hid (Rd ((wr.alloc (.cells #[.int .i64 tt, .slice ap np cp] 103)).alloc (.cells #[] 5)).drew ap np cp (dwAt d.dw j).2) := (hp.rd hnp).kept (bt7 hb0 hbe)
     have hzb : ([] : List Int).length + (dwAt d.dw j).2.length ≤ 70368744177664 := by rw [← hp.len.1]; simp; omega
     have HZ2 : Hid (wr.heap.size + 1 ≤ ((wr.alloc (.cells #[.int .i64 tt, .slice ap np cp] 103)).alloc (.cells #[] 5)).drew.heap.size) := by have := hbe.size; rw [HUS.out] at this; exact this
     have HB4 : Hid (∀ w4 : World, ((wr.alloc (.cells #[.int .i64 tt, .slice ap np cp] 103)).alloc (.cells #[] 5)).drew.grownBy w4 (Value.slice (some ⟨wr.heap.size + 1, 0, none⟩) 0 0).ownBlock → Below (wr.alloc (.cells #[.int .i64 tt, .slice ap np cp] 103)).heap.size (wr.alloc (.cells #[.int .i64 tt, .slice ap np cp] 103)) w4) := fun w4 hg => hbe.trans ((only_of_grown hg (R := fun y => (Value.slice (some ⟨wr.heap.size + 1, 0, none⟩) 0 0).ownBlock = some y) (fun k e => e)).below hbe.size (fun y hy e => by have e' : wr.heap.size + 1 = y := (by simpa [Value.ownBlock] using e); rw [HUS.out] at hy; omega))
     have HCV : Hid (∀ (w4 : World) (v4 : Value), Ob w4 (wr.heap.size + 1) v4 ([] ++ (dwAt d.dw j).2) → Ob w4 (wr.alloc (.cells #[.int .i64 tt, .slice ap np cp] 103)).heap.size v4 (dwAt d.dw j).2) := fun w4 v4 hO => by rw [HUS.out]; simpa using hO
     clear hbe
     have HSZ : Hid (∀ z, Below (wr.alloc (.cells #[.int .i64 tt, .slice ap np cp] 103)).heap.size (wr.alloc (.cells #[.int .i64 tt, .slice ap np cp] 103)) z → w.heap.size + 3 ≤ z.heap.size) := fun z hz => by have h1 := hz.size; have h2 := CU.out.k2.lt; omega
     clear hcell hbw hp hb0 CC HBY
     go_wp2_with fail
     go_region_law (first
      | (refine step_append_rd rfl _ _ rfl (wr.heap.size + 1) _ [] rfl HOB.out ap np cp (dwAt d.dw j).2 rfl HRD2.out hzb HZ2.out ?_; intro a4 n4 c4 w4 hO4 hg4; have hb4 := HB4.out w4 hg4; have q1 := (HBX.out w4 hb4).1; have s4 := HS4.out w4 hb4; have q2 := (HBX.out w4 hb4).2.2.2; have s5 := HS5.out w4 hb4)
      | (refine step_append_g rfl _ _ _ rfl (w.heap.size + 3) 103 (.agg #[.int .i64 0, .slice none 0 0]) 2 32 Tryz.underlying28 infoWriteI rfl (by decide) (by decide) (.slice ya yn yc) j (wcs Uu) rfl (HBX.out _ (bt7 hb4 (below_new (Below.refl _ _)))).2.2.1 w4.heap.size [.int .i64 tt, .slice a4 n4 c4] rfl (rw_two (Bk.new w4 _ [_, _])) rfl (by intro u hu; simp at hu; rcases hu with rfl | rfl <;> rfl) hk6 (HSZ.out _ (bt7 hb4 (below_new (Below.refl _ _)))) (w.heap.size + 1 + 1) 1 _ (HBX.out _ (bt7 hb4 (below_new (Below.refl _ _)))).1 (HBX.out _ (bt7 hb4 (below_new (Below.refl _ _)))).2.1 HNE.out ?_; intro a5 n5 c5 w5 hO5 hg5 ha5 hc5 hf5))
     all_goals go_wp2
     all_goals exact ⟨⟨j + 1, a5, n5, c5, _, by omega, by go_num, HFIN.out w4 a4 n4 c4 a5 n5 c5 w5 (HCV.out _ _ hO4) hb4 hO5 hg5 ha5⟩, by simp [intOf]; omega⟩
    ·have hjd : j = d.dw.length := by rw [← HND.out]; omega
     have CE : Hid (CX w wr sa sn sc da dn dc xa xn xc ya yn yc V Uu d) := by
      have := CC.out
      rwa [hjd, List.take_length] at this
     clear CC hjd
     have c0 := CE.out.k2.cell (j := 0) rfl
     have c1 := CE.out.k2.cell (j := 1) rfl
     have r0 := CE.out.k1.cell (j := 0) rfl
     have r1 := CE.out.k1.cell (j := 1) rfl
     have f0 := CE.out.k1.free 0
     have f1 := CE.out.k1.free 1
     go_wp2
     try simp only [Exit.inBlock, Exit.then]
     refine bodyPost_ret (v := .agg #[.slice xa xn xc, .slice ya yn yc]) ?_ rfl ?_
     ·exact results_dsk rfl _ _ _ rfl (by go_simp) (by go_simp)
     ·have O1 : Only (fun y => y = w.heap.size + 1) wr ((wr.setCell ⟨w.heap.size + 1, 0, none⟩ (.slice xa xn xc)).setCell ⟨w.heap.size + 1, 1, none⟩ (.slice ya yn yc)) := (only_set (R := fun y => y = w.heap.size + 1) rfl _).trans (only_set (R := fun y => y = w.heap.size + 1) rfl _)
      exact ⟨_, _, _, _, _, _, _, _, rfl, (CE.out.own.to O1 (fun y e e2 => by have := (CE.out.own.lt e).1; omega)).base (by omega), (CE.out.bel.setCell (p := ⟨w.heap.size + 1, 0, none⟩) (Nat.le_succ _) _).setCell (p := ⟨w.heap.size + 1, 1, none⟩) (Nat.le_succ _) _⟩
open Go.RowKit
theorem zeroCells_one (k : Nat) : Builtin.zeroCells #[.int .u8 0] k = (List.replicate k (Value.int .u8 0)).toArray := by
 apply Array.ext
 ·simp [Builtin.zeroCells]
 ·intro i h1 h2
  simp [Builtin.zeroCells, Nat.mod_one]
theorem run_append_zeros {w : World} (ty : TypeId) (base : Nat) (v : Value) (zs : List Int) (hown : Ob w base v zs) (k : Nat) (hb : zs.length + k ≤ 70368744177664) (hbase : base ≤ w.heap.size) :
  ∃ v' w', (Builtin.append_ #[89, 3] ty #[v, .int .i64 (k : Int)]).run Tryz.prog w = .ok v' w' ∧ Ob w' base v' (zs ++ List.replicate k 0) ∧ w.grownBy w' v.ownBlock := by
 obtain ⟨i0, hi, hz0, hz1, hz2⟩ := info_parts infoU8
 have hwr : IntKind.i64.wrap (k : Int) = k := by rw [IntKind.wrap_i64]; omega
 have hneg : ¬ ((k : Int) < 0) := by omega
 have h48 : ¬ (281474976710656 < (k : Int)) := by omega
 have ht := Tryz.underlying89
 have htn := Tryz.underlying3
 have grown : ∀ (old : Nat), old < zs.length + k → ∀ (row : Option Nat),
   Ob (w.drew.alloc (.cells ((zs.map (Value.int .u8)).toArray ++ Builtin.zeroCells #[.int .u8 0] k ++ Builtin.zeroCells #[.int .u8 0] (grownCap w (zs.length + k) old 5 - (zs.length + k))) 5)) base
    (.slice (some ⟨w.heap.size, 0, none⟩) (zs.length + k) (grownCap w (zs.length + k) old 5)) (zs ++ List.replicate k 0) ∧
   w.grownBy (w.drew.alloc (.cells ((zs.map (Value.int .u8)).toArray ++ Builtin.zeroCells #[.int .u8 0] k ++ Builtin.zeroCells #[.int .u8 0] (grownCap w (zs.length + k) old 5 - (zs.length + k))) 5)) row := by
  intro old ho row
  have hge := grownCap_ge w (zs.length + k) old 5
  have hcm : grownCap w (zs.length + k) old 5 ≤ maxLen := grownCap_le_maxLen w (zs.length + k) old 5 (by unfold maxLen; omega)
  have hl : (zs ++ List.replicate k (0 : Int)).length = zs.length + k := by simp
  refine ⟨⟨by simp, .inr ⟨w.heap.size, _, _, by rw [hl], hbase, heap_alloc_new w.drew _, by rw [hl]; exact hge, hcm, ?_, ?_⟩⟩, ⟨rfl, rfl, rfl, by simp, fun j hj _ => Below.heap_alloc w.drew _ j hj⟩⟩
  ·simp [zeroCells_one]; omega
  ·rw [hl, zeroCells_one, Nat.mul_one]
   simp only [Array.toList_append, List.map_append, List.map_replicate]
   rw [List.take_left' (by simp)]
 have hcc : (Value.int .u8 0).cells = #[.int .u8 0] := rfl
 rcases hown.2 with ⟨rfl, h0⟩ | ⟨g, cap, cur, rfl, hbg, hg, hnc, hcm, hcs, htake⟩
 ·have hx : zs = [] := List.eq_nil_of_length_eq_zero h0
  subst hx
  by_cases hk : k = 0
  ·subst hk
   refine ⟨.slice none 0 0, w, ?_, World.ownsRow_nil w base 5 1, ⟨rfl, rfl, rfl, Nat.le_refl _, fun _ _ _ => rfl⟩⟩
   simp [Builtin.append_, run_underlying ht, run_underlying htn, sizeOf, typeInfo, hi, hz2, asInt, asIntOf, IntKind.wrap_i64]
  ·have hgr := grown 0 (by simp; omega) (Value.ownBlock (.slice none 0 0))
   simp only [List.length_nil, Nat.zero_add, List.map_nil, List.nil_append, Array.empty_append] at hgr ⊢
   refine ⟨_, _, ?_, hgr.1, hgr.2⟩
   have h63 : ¬ (9223372036854775807 < (k : Int)) := by omega
   have hfit := growslice_fits (need := k) (old := 0) (bytes := 1) (by omega) (by omega)
   have hfit' : ¬ (281474976710656 < Builtin.nextslicecap k 0) := by omega
   have hk' : ¬ k ≤ 0 := by omega
   simp [Builtin.append_, run_underlying ht, run_underlying htn, sizeOf, typeInfo, hi, hz0, hz1, hz2, asInt, asIntOf, hwr, hneg, h48, hk, h63, hfit', zeroValue, hcc, Question.forced, Builtin.firstCells, newRow, grownCap]
 ·by_cases hroom : zs.length + k ≤ cap
  ·have hst := run_storeCells_at Tryz.prog g zs.length 5 (List.replicate k (.int .u8 0)) 0 cur w hg (by simp; omega) (by intro v hv; obtain ⟨_, rfl⟩ := List.mem_replicate.1 hv; rfl)
   simp only [Nat.add_zero, List.length_replicate] at hst
   have hr : (Builtin.append_ #[89, 3] ty #[.slice (some ⟨g, 0, none⟩) zs.length cap, .int .i64 (k : Int)]).run Tryz.prog w = .ok (.slice (some ⟨g, 0, none⟩) (zs.length + k) cap) (w.setRow g (cur.toList.take zs.length ++ List.replicate k (Value.int .u8 0) ++ cur.toList.drop (zs.length + k)).toArray) := by
    by_cases hk : k = 0
    ·subst hk
     simp only [List.replicate_zero, List.append_nil, Nat.add_zero, List.take_append_drop, Array.toArray_toList] at hst ⊢
     simp [Builtin.append_, run_underlying ht, run_underlying htn, sizeOf, typeInfo, hi, hz1, hz2, asInt, asIntOf, IntKind.wrap_i64, hnc, Addr.add_lit, hst]
    ·simp [Builtin.append_, run_underlying ht, run_underlying htn, sizeOf, typeInfo, hi, hz0, hz1, hz2, asInt, asIntOf, hwr, hneg, h48, hk, hroom, zeroValue, hcc, zeroCells_one, Addr.add_lit, hst]
   refine ⟨_, _, hr, ⟨by simp, .inr ⟨g, cap, _, by simp, hbg, setRow_heap w g cur _ 5 _ hg, by simp; exact hroom, hcm, ?_, ?_⟩⟩, ⟨rfl, rfl, rfl, by simp, fun j _ hj => setRow_other w g j _ (fun e => hj (by simp [Value.ownBlock, e]))⟩⟩
   ·simp only [List.size_toArray, List.length_append, List.length_take, List.length_drop, List.length_replicate, Array.length_toList]
    omega
   ·have ht2 : cur.toList.take zs.length = zs.map (Value.int .u8) := by rw [← htake, Nat.mul_one]
    rw [ht2]
    simp only [List.map_append, List.map_replicate]
    rw [List.take_left' (by simp)]
  ·have holds := hown.cells (g := g) rfl
   have hold : (Builtin.firstCells 1 zs.length (.slice (some ⟨g, 0, none⟩) zs.length cap)).run Tryz.prog w.drew = .ok (zs.map (Value.int .u8)).toArray w.drew := run_firstCells_some w.drew 1 zs.length ⟨g, 0, none⟩ zs.length cap (zs.map (Value.int .u8)) (by simp) holds
   have hgr := grown cap (by omega) (Value.ownBlock (.slice (some ⟨g, 0, none⟩) zs.length cap))
   refine ⟨_, _, ?_, hgr.1, hgr.2⟩
   have h63 : ¬ (9223372036854775807 < (zs.length : Int) + (k : Int)) := by omega
   have hfit := growslice_fits (need := zs.length + k) (old := cap) (bytes := 1) (by omega) (by omega)
   have hfit' : ¬ (281474976710656 < Builtin.nextslicecap (zs.length + k) cap) := by omega
   have hk : ¬ k = 0 := by omega
   simp [Builtin.append_, run_underlying ht, run_underlying htn, sizeOf, typeInfo, hi, hz0, hz1, hz2, asInt, asIntOf, hwr, hneg, h48, hk, h63, hfit', hroom, zeroValue, hcc, Question.forced, hold, newRow, grownCap]
theorem wpList_append_zeros {w : World} {ops : Array Oper} {rest : List Oper} {o : Oper} {a : Act} {Q : Exit → Act → World → Prop} (hgd : o.guard = none) (s x : Operand)
  (ho : o.op = .call { callee := .builtin .append, args := #[s, x], argTypes := #[89, 3] }) (base : Nat) (v : Value) (zs : List Int) (hs : a.eval s = v) (hown : Ob w base v zs)
  (k : Nat) (hx : a.eval x = .int .i64 (k : Int)) (hb : zs.length + k ≤ 70368744177664) (hbase : base ≤ w.heap.size)
  (h : ∀ v' w', Ob w' base v' (zs ++ List.replicate k 0) → w.grownBy w' v.ownBlock → wpList Tryz.prog ops Q rest (a.put o.dst v') w') : wpList Tryz.prog ops Q (o :: rest) a w := by
 refine wpList_plain hgd fun K hK => ?_
 obtain ⟨v', w', hr, h2, h3⟩ := run_append_zeros (w := w) o.type base v zs hown k hb hbase
 unfold Oper.wp execOp
 simp only [ho, resolve, invoke, builtin, Sem.run_bind, Sem.run_pure, Result.andThen_ok, List.map_toArray, List.map_cons, List.map_nil, hs, hx, hr]
 exact hK _ _ (h v' w' h2 h3)
def bytesOf (s : ByteArray) : List Int := s.data.toList.map fun b => (b.toNat : Int)
theorem bytesOf_len (s : ByteArray) : (bytesOf s).length = s.size := by
 simp [bytesOf]
theorem bytesOf_byte (s : ByteArray) : ∀ z ∈ bytesOf s, 0 ≤ z ∧ z ≤ 255 := by
 intro z hz
 obtain ⟨b, _, rfl⟩ := List.mem_map.1 hz
 have := b.toNat_lt
 omega
theorem rd_conv (w : World) (s : ByteArray) (c : Nat) (fr : Nat × Nat) (hs : s.size ≤ 140737488355328) (hc : s.size ≤ c) (hm : c ≤ 9223372036854775807) :
  Rd (w.alloc (.cells (bytesRow s c) 5 fr)) (some ⟨w.heap.size, 0, none⟩) s.size c (bytesOf s) := by
 refine ⟨(bytesOf_len s).symm, hc, hm, hs, fun i => ?_, fun _ => ⟨w.heap.size, 0, rfl, by simp, fun i hi => ?_⟩⟩
 ·by_cases hi : i < (bytesOf s).length
  ·rw [List.getElem?_eq_getElem hi]; exact bytesOf_byte s _ (List.getElem_mem hi)
  ·rw [List.getElem?_eq_none (by omega)]; simp
 ·rw [World.cell?_alloc_mark]
  simp [bytesRow, bytesOf, Array.getElem?_append, hi]
open Go.RowKit
def trB (old new : List Int) (n : Int) : List Int := new.take n.toNat ++ old.drop n.toNat
def sheet (zs : List Int) : List Int := if zs.length = 0 then List.replicate 512 0 else zs
def shOk (zs : List Int) : Bool := decide (zs.length = 0) || decide (zs.length = 512)
theorem sheet_len {zs : List Int} (h : shOk zs = true) : (sheet zs).length = 512 := by
 unfold sheet
 simp only [shOk, Bool.or_eq_true, decide_eq_true_eq] at h
 split
 ·rw [List.length_replicate]
 ·omega
theorem ob_made (w : World) (k : Nat) (hk : k ≤ 8192) : Ob (w.alloc (.cells (madeCells #[.int .u8 0] k) 5)) w.heap.size (.slice (some ⟨w.heap.size, 0, none⟩) k k) (List.replicate k 0) := by
 have e : (madeCells #[.int .u8 0] k).toList = (List.replicate k (0 : Int)).map (Value.int .u8) := by
  apply List.ext_getElem
  ·simp [madeCells]
  ·intro i h1 h2
   simp [madeCells, Nat.mod_one]
 refine ⟨by simp, .inr ⟨w.heap.size, k, madeCells #[.int .u8 0] k, by simp, Nat.le_refl _, heap_alloc_new w _, by simp, by unfold maxLen; omega, by simp [madeCells], ?_⟩⟩
 rw [e]
 simp
theorem makeB (k : Nat) (h : k ≤ 8192) : ∀ w, (Instr.makeSlice 89 (.int .i64 (k : Int)) (.int .i64 (k : Int))).run Tryz.prog w = .ok (.slice (some ⟨w.heap.size, 0, none⟩) k k) (w.alloc (.cells (madeCells #[.int .u8 0] k) 5)) :=
 fun w => run_make_row' (P := Tryz.prog) 89 5 (.int .u8 0) 1 Tryz.underlying89 infoU8 rfl .i64 .i64 k (by omega) (by omega) w
def ShPost (zs : List Int) (w : World) (e : Ending) (w' : World) : Prop := ∃ a n c, e = .returned (.tuple #[.slice a n c, .bool (shOk zs)]) ∧ Ob w' w.heap.size (.slice a n c) (sheet zs) ∧ Below w.heap.size w w'
set_option maxHeartbeats 2000000 in
theorem sheet_any (a : Option Addr) (n c : Nat) (zs : List Int) (w : World) (h : Rd w a n c zs) (hl : n ≤ 1048576) : Calls Tryz.prog 102 #[.slice a n c] w fun e w' => ShPost zs w e w' := by
 have hzl : n = zs.length := h.1
 by_cases h0 : n = 0
 ·subst h0
  have HS : Hid (shOk zs = true ∧ sheet zs = List.replicate 512 0) := ⟨by simp [shOk, ← hzl], by rw [sheet, if_pos hzl.symm]⟩
  have hmk : ∀ w, (Instr.makeSlice 89 (.int .i64 512) (.int .i64 512)).run Tryz.prog w = .ok (.slice (some ⟨w.heap.size, 0, none⟩) 512 512) (w.alloc (.cells (madeCells #[.int .u8 0] 512) 5)) := fun w => makeB 512 (by omega) w
  have HO := hid (ob_made w 512 (by omega))
  have HB := hid (below_new (o := .cells (madeCells #[.int .u8 0] 512) 5) (w := w) (Below.refl _ _))
  clear h hzl
  go_enter Tryz.func102, Tryz.ntmps102
  go_wp2
  go_ret2
  exact ⟨_, _, _, by rw [HS.out.1]; rfl, by rw [HS.out.2]; exact HO.out, HB.out⟩
 ·have h0' : ((n : Int) == 0) = false := by simp; omega
  have h0'' : ¬ (n : Int) = 0 := by omega
  have HS : Hid (shOk zs = decide (n = 512) ∧ sheet zs = zs) := ⟨by simp [shOk, ← hzl, h0], by rw [sheet, if_neg (by omega)]⟩
  have HO := hid (ob_new w w.heap.size (Nat.le_refl _))
  have HB := hid (below_new (o := .cells #[] 5) (w := w) (Below.refl _ _))
  have HR := hid (h.kept HB.out)
  have HZ : Hid (w.heap.size ≤ (w.alloc (.cells #[] 5)).heap.size) := HB.out.size
  have hzb : ([] : List Int).length + zs.length ≤ 70368744177664 := by rw [← hzl]; simp; omega
  clear h hzl
  go_enter Tryz.func102, Tryz.ntmps102
  go_wp2_with (at_builtin; refine wpList_append_rd rfl _ _ rfl w.heap.size _ [] rfl HO.out a n c zs rfl HR.out hzb HZ.out ?_)
  intro v3 w3 hO3 hg3
  have O3 : Hid (Ob w3 w.heap.size v3 zs) := by show Ob _ _ _ _; simpa using hO3
  have B3 : Hid (Below w.heap.size w w3) := HB.out.trans ((only_of_grown hg3 (R := fun y => (Value.slice (some ⟨w.heap.size, 0, none⟩) 0 0).ownBlock = some y) (fun k e => e)).below HZ.out (fun b hb e => by have := (World.ownsRow.lt HO.out b e).1; omega))
  obtain ⟨a3, c3, rfl⟩ := hO3.shape
  clear hO3 hg3 HO HB HR
  by_cases h5 : n = 512
  ·have h5' : ((n : Int) == 512) = true := by simp; omega
   have HT : Hid (shOk zs = true) := by show _ = true; rw [HS.out.1, decide_eq_true h5]
   subst h5
   go_wp2
   go_ret2
   exact ⟨_, _, _, by rw [HT.out]; rfl, by rw [HS.out.2]; exact O3.out, B3.out⟩
  ·have h5' : ((n : Int) == 512) = false := by simp; omega
   have h5'' : ¬ (n : Int) = 512 := by omega
   have HT : Hid (shOk zs = false) := by show _ = false; rw [HS.out.1, decide_eq_false h5]
   go_wp2
   go_ret2
   exact ⟨_, _, _, by rw [HT.out]; rfl, by rw [HS.out.2]; exact O3.out, B3.out⟩
open Go.RowKit
set_option linter.unusedVariables false
structure KX (w v : World) (sa : Option Addr) (sn sc : Nat) (da : Option Addr) (dn dc : Nat) (bo B : Nat) (xa : Option Addr) (xn xc : Nat) (V : List Value) (ss : List (List Int)) : Prop where
 bel : Below w.heap.size w v
 k0 : Bk v w.heap.size 30 [.slice sa sn sc, .slice da dn dc]
 k1 : Bk v (w.heap.size + 1) 30 [.slice none 0 0, .slice none 0 0]
 k2 : Bk v bo 30 [.slice xa xn xc, .slice none 0 0]
 own : SOw v B (.slice xa xn xc) V ss
 lo : w.heap.size + 1 < B
 lb : w.heap.size + 1 < bo
 nb : ∀ y, sbl (.slice xa xn xc) V y → y ≠ bo
open Go.RowKit
set_option linter.unusedVariables false
open Go.RowKit
set_option linter.unusedVariables false
set_option maxHeartbeats 16000000 in
set_option maxRecDepth 20000 in
theorem copyDisk_any (S : Nat → Prop) (sa : Option Addr) (sn sc : Nat) (da : Option Addr) (dn dc : Nat) (d : DK) (w : World) (h : Dk w S sa sn sc da dn dc d) (hsm : smallD d) (h1 : sn ≤ 1048576) (h2 : dn ≤ 1048576) :
  Calls Tryz.prog 31 #[.agg #[.slice sa sn sc, .slice da dn dc]] w fun e w' => DkPost1 d w e w' := by
 have HS := hid h.hs
 have HD := hid h.hd
 have HSM := hid hsm
 have HNS := hid h.hs.len.1
 have HND := hid h.hd.len.1
 have C0 := hid (CX.start w sa sn sc da dn dc)
 clear h hsm
 go_enter Tryz.func31, Tryz.ntmps31
 go_wp2_with fail
 go_loopw [11] (fun i wr => ∃ (k : Nat) (xa : Option Addr) (xn xc : Nat) (V : List Value), k ≤ sn ∧ i = .int .i64 k ∧ Hid (CX w wr sa sn sc da dn dc xa xn xc none 0 0 V [] ⟨d.sh.take k, []⟩)) (fun i _ => sn - (intOf i).toNat)
 case atStart => exact ⟨0, none, 0, 0, [], Nat.zero_le _, rfl, C0.out⟩
 case round =>
  obtain ⟨k, xa, xn, xc, V, hk, rfl, CC⟩ := hrel
  clear C0
  by_cases hlt : k < sn
  ·have hlt' : (k : Int) < (sn : Int) := by omega
   obtain ⟨b, off, rfl, _, hbw, hcell⟩ := (HS.out.below CC.out.bel).at (by omega)
   obtain ⟨ap, np, cp, m0, hp⟩ := hcell k hlt
   have hkl : k < d.sh.length := by rw [← HNS.out]; exact hlt
   have hnp : np ≤ 1048576 := by rw [hp.len.1]; exact HSM.out.1 k hkl
   have hb0 := below_new (o := .cells #[.slice ap np cp] 102) (w := wr) (Below.refl _ _)
   have CU := hid (CC.out.below hb0)
   have HBY := hid hp.2
   have HCB : Hid (∀ z, Below (wr.alloc (.cells #[.slice ap np cp] 102)).heap.size (wr.alloc (.cells #[.slice ap np cp] 102)) z → Calls Tryz.prog 78 #[.slice ap np cp] z fun e w' => ∃ a' n' c', e = .returned (.slice a' n' c') ∧ Ob w' z.heap.size (.slice a' n' c') (shAt d.sh k) ∧ Below z.heap.size z w') := fun z hz => copyB_any ap np cp _ z ((hp.rd hnp).kept (bt7 hb0 hz)) hnp
   have HL : Hid ((d.sh.take k).length = k) := by show _ = _; rw [List.length_take]; omega
   have HTK := hid (take_sh hkl)
   have HBX : Hid (∀ z, Below (wr.alloc (.cells #[.slice ap np cp] 102)).heap.size (wr.alloc (.cells #[.slice ap np cp] 102)) z → z.cell? ⟨w.heap.size + 1 + 1, 0, none⟩ = some (.slice xa xn xc) ∧ z.frozen? ⟨w.heap.size + 1 + 1, 0, none⟩ = false ∧ z.ownsRow (w.heap.size + 3) 102 1 (.slice xa xn xc) k V) := fun z hz => by
    have c := CU.out.below hz
    refine ⟨c.k2.cell (j := 0) rfl, c.k2.free 0, ?_⟩
    have := c.own.hs.row
    rwa [HL.out] at this
   have SS : Hid (w.heap.size + 1 + 1 < wr.heap.size) := CC.out.k2.lt
   have HNE : Hid ((Value.slice xa xn xc).ownBlock ≠ some (w.heap.size + 1 + 1)) := fun e => by have := (World.ownsRow.lt CC.out.own.hs.row _ e).1; omega
   have HFIN : Hid (∀ (w4 : World) (a4 : Option Addr) (n4 c4 : Nat) (a5 : Option Addr) (n5 c5 : Nat) (w5 : World), Ob w4 (wr.alloc (.cells #[.slice ap np cp] 102)).heap.size (.slice a4 n4 c4) (shAt d.sh k) → Below (wr.alloc (.cells #[.slice ap np cp] 102)).heap.size (wr.alloc (.cells #[.slice ap np cp] 102)) w4 → w5.ownsRow (w.heap.size + 3) 102 1 (.slice a5 n5 c5) (k + 1) (V ++ [.slice a4 n4 c4]) → (w4.alloc (.cells #[.slice a4 n4 c4] 102)).grownBy w5 (Value.slice xa xn xc).ownBlock → ((Value.slice a5 n5 c5).ownBlock = (Value.slice xa xn xc).ownBlock ∨ (Value.slice a5 n5 c5).ownBlock = some (w4.alloc (.cells #[.slice a4 n4 c4] 102)).heap.size) →
     CX w (w5.setCell ⟨w.heap.size + 1 + 1, 0, none⟩ (.slice a5 n5 c5)) (some ⟨b, off, none⟩) sn sc da dn dc a5 n5 c5 none 0 0 (V ++ [.slice a4 n4 c4]) [] ⟨d.sh.take (k + 1), []⟩) := by
    intro w4 a4 n4 c4 a5 n5 c5 w5 hO4 hb4 hO5 hg5 ha5
    rw [HTK.out]
    have hbn := below_new (o := .cells #[.slice a4 n4 c4] 102) (w := w4) (Below.refl _ _)
    exact CU.out.pushS (bt7 hb4 hbn) _ _ (own_kept hO4 (only_of_below hbn (fun _ => False)) (fun _ _ h => h)) HBY.out (by rw [HL.out]; exact hO5) hg5 ha5
   have c1 := CC.out.k2.cell (j := 0) rfl
   have s1 := SS.out
   have hk6 : k ≤ 1048576 := by omega
   have HS4 : Hid (∀ z, Below (wr.alloc (.cells #[.slice ap np cp] 102)).heap.size (wr.alloc (.cells #[.slice ap np cp] 102)) z → w.heap.size + 1 + 1 < z.heap.size) := fun z hz => by have h1 := hz.size; have h2 := CU.out.k2.lt; omega
   have HS5 : Hid (∀ z, Below (wr.alloc (.cells #[.slice ap np cp] 102)).heap.size (wr.alloc (.cells #[.slice ap np cp] 102)) z → wr.heap.size < z.heap.size) := fun z hz => by have h1 := hz.size; simp at h1; omega
   have HSZ : Hid (∀ z, Below (wr.alloc (.cells #[.slice ap np cp] 102)).heap.size (wr.alloc (.cells #[.slice ap np cp] 102)) z → w.heap.size + 3 ≤ z.heap.size) := fun z hz => by have h1 := hz.size; have h2 := CU.out.k2.lt; omega
   clear hcell hbw hp hb0 CC HBY
   go_wp2_with fail
   go_region_law (first
    | (go_simp; go_at_call 78; refine (HCB.out _ (below_drew _)).mono ?_; rintro e w4 ⟨a4, n4, c4, rfl, hO4, hb4⟩; have q1 := (HBX.out w4 (bt7 (below_drew _) hb4)).1; have s4 := HS4.out w4 (bt7 (below_drew _) hb4))
    | (refine step_append_g rfl _ _ _ rfl (w.heap.size + 3) 102 (.agg #[.slice none 0 0]) 1 24 Tryz.underlying27 infoSheetI rfl (by decide) (by decide) (.slice xa xn xc) k V rfl (HBX.out _ (bt7 (bt7 (below_drew _) hb4) (below_new (Below.refl _ _)))).2.2 w4.heap.size [.slice a4 n4 c4] rfl (rw_one (Bk.new w4 _ [_])) rfl (by intro u hu; simp at hu; subst hu; rfl) hk6 (HSZ.out _ (bt7 (bt7 (below_drew _) hb4) (below_new (Below.refl _ _)))) (w.heap.size + 1 + 1) 0 _ (HBX.out _ (bt7 (bt7 (below_drew _) hb4) (below_new (Below.refl _ _)))).1 (HBX.out _ (bt7 (bt7 (below_drew _) hb4) (below_new (Below.refl _ _)))).2.1 HNE.out ?_; intro a5 n5 c5 w5 hO5 hg5 ha5 hc5 hf5))
   all_goals go_wp2
   all_goals exact ⟨⟨k + 1, a5, n5, c5, _, by omega, by go_num, HFIN.out w4 a4 n4 c4 a5 n5 c5 w5 hO4 (bt7 (below_drew _) hb4) hO5 hg5 ha5⟩, by simp [intOf]; omega⟩
  ·have hks : k = d.sh.length := by rw [← HNS.out]; omega
   have CD : Hid (CX w wr sa sn sc da dn dc xa xn xc none 0 0 V [] ⟨d.sh, []⟩) := by
    have := CC.out
    rwa [hks, List.take_length] at this
   clear CC hks
   have d1 := CD.out.k0.cell (j := 1) rfl
   go_wp2_with fail
   clear d1
   go_loopw [28] (fun i wr => ∃ (j : Nat) (ya : Option Addr) (yn yc : Nat) (Uu : List (Int × Value)), j ≤ dn ∧ i = .int .i64 j ∧ Hid (CX w wr sa sn sc da dn dc xa xn xc ya yn yc V Uu ⟨d.sh, d.dw.take j⟩)) (fun i _ => dn - (intOf i).toNat)
   case atStart => exact ⟨0, none, 0, 0, [], Nat.zero_le _, rfl, CD.out⟩
   case round =>
    clear CD
    obtain ⟨j, ya, yn, yc, Uu, hj, rfl, CC⟩ := hrel
    by_cases hlt2 : j < dn
    ·have hlt' : (j : Int) < (dn : Int) := by omega
     obtain ⟨b, off, rfl, _, hbw, hcell⟩ := (HD.out.below CC.out.bel).at (by omega)
     obtain ⟨ap, np, cp, mt, m0, hp⟩ := hcell j hlt2
     have hkl : j < d.dw.length := by rw [← HND.out]; exact hlt2
     have hnp : np ≤ 1048576 := by rw [hp.len.1]; exact HSM.out.2 j hkl
     have HTK := hid (take_dw hkl)
     generalize (dwAt d.dw j).1 = tt at *
     have hb0 := below_new (o := .cells #[.int .i64 tt, .slice ap np cp] 103) (w := wr) (Below.refl _ _)
     have CU := hid (CC.out.below hb0)
     have HBY := hid hp.2
     have HCB : Hid (∀ z, Below (wr.alloc (.cells #[.int .i64 tt, .slice ap np cp] 103)).heap.size (wr.alloc (.cells #[.int .i64 tt, .slice ap np cp] 103)) z → Calls Tryz.prog 78 #[.slice ap np cp] z fun e w' => ∃ a' n' c', e = .returned (.slice a' n' c') ∧ Ob w' z.heap.size (.slice a' n' c') (dwAt d.dw j).2 ∧ Below z.heap.size z w') := fun z hz => copyB_any ap np cp _ z ((hp.rd hnp).kept (bt7 hb0 hz)) hnp
     have HL : Hid ((d.dw.take j).length = j) := by show _ = _; rw [List.length_take]; omega
     have HBX : Hid (∀ z, Below (wr.alloc (.cells #[.int .i64 tt, .slice ap np cp] 103)).heap.size (wr.alloc (.cells #[.int .i64 tt, .slice ap np cp] 103)) z → z.cell? ⟨w.heap.size + 1 + 1, 1, none⟩ = some (.slice ya yn yc) ∧ z.frozen? ⟨w.heap.size + 1 + 1, 1, none⟩ = false ∧ z.ownsRow (w.heap.size + 3) 103 2 (.slice ya yn yc) j (wcs Uu) ∧ z.cell? ⟨wr.heap.size, 0, none⟩ = some (.int .i64 tt)) := fun z hz => by
      have c := CU.out.below hz
      refine ⟨c.k2.cell (j := 1) rfl, c.k2.free 1, ?_, ((Bk.new wr 103 [.int .i64 tt, .slice ap np cp]).below hz).cell (j := 0) rfl⟩
      have := c.own.hd.row
      rwa [HL.out] at this
     have SS : Hid (w.heap.size + 1 + 1 < wr.heap.size) := CC.out.k2.lt
     have HNE : Hid ((Value.slice ya yn yc).ownBlock ≠ some (w.heap.size + 1 + 1)) := fun e => by have := (World.ownsRow.lt CC.out.own.hd.row _ e).1; omega
     have HFIN : Hid (∀ (w4 : World) (a4 : Option Addr) (n4 c4 : Nat) (a5 : Option Addr) (n5 c5 : Nat) (w5 : World), Ob w4 (wr.alloc (.cells #[.int .i64 tt, .slice ap np cp] 103)).heap.size (.slice a4 n4 c4) (dwAt d.dw j).2 → Below (wr.alloc (.cells #[.int .i64 tt, .slice ap np cp] 103)).heap.size (wr.alloc (.cells #[.int .i64 tt, .slice ap np cp] 103)) w4 → w5.ownsRow (w.heap.size + 3) 103 2 (.slice a5 n5 c5) (j + 1) (wcs Uu ++ [.int .i64 tt, .slice a4 n4 c4]) → (w4.alloc (.cells #[.int .i64 tt, .slice a4 n4 c4] 103)).grownBy w5 (Value.slice ya yn yc).ownBlock → ((Value.slice a5 n5 c5).ownBlock = (Value.slice ya yn yc).ownBlock ∨ (Value.slice a5 n5 c5).ownBlock = some (w4.alloc (.cells #[.int .i64 tt, .slice a4 n4 c4] 103)).heap.size) →
       CX w (w5.setCell ⟨w.heap.size + 1 + 1, 1, none⟩ (.slice a5 n5 c5)) sa sn sc (some ⟨b, off, none⟩) dn dc xa xn xc a5 n5 c5 V (Uu ++ [(tt, .slice a4 n4 c4)]) ⟨d.sh, d.dw.take (j + 1)⟩) := by
      intro w4 a4 n4 c4 a5 n5 c5 w5 hO4 hb4 hO5 hg5 ha5
      rw [HTK.out]
      have hbn := below_new (o := .cells #[.int .i64 tt, .slice a4 n4 c4] 103) (w := w4) (Below.refl _ _)
      exact CU.out.pushW (bt7 hb4 hbn) tt _ _ (own_kept hO4 (only_of_below hbn (fun _ => False)) (fun _ _ h => h)) HBY.out (by rw [HL.out]; exact hO5) hg5 ha5
     have c1 := CC.out.k2.cell (j := 1) rfl
     have s1 := SS.out
     have hk6 : j ≤ 1048576 := by omega
     have HS4 : Hid (∀ z, Below (wr.alloc (.cells #[.int .i64 tt, .slice ap np cp] 103)).heap.size (wr.alloc (.cells #[.int .i64 tt, .slice ap np cp] 103)) z → w.heap.size + 1 + 1 < z.heap.size) := fun z hz => by have h1 := hz.size; have h2 := CU.out.k2.lt; omega
     have HS5 : Hid (∀ z, Below (wr.alloc (.cells #[.int .i64 tt, .slice ap np cp] 103)).heap.size (wr.alloc (.cells #[.int .i64 tt, .slice ap np cp] 103)) z → wr.heap.size < z.heap.size) := fun z hz => by have h1 := hz.size; simp at h1; omega
     have HSZ : Hid (∀ z, Below (wr.alloc (.cells #[.int .i64 tt, .slice ap np cp] 103)).heap.size (wr.alloc (.cells #[.int .i64 tt, .slice ap np cp] 103)) z → w.heap.size + 3 ≤ z.heap.size) := fun z hz => by have h1 := hz.size; have h2 := CU.out.k2.lt; omega
     clear hcell hbw hp hb0 CC HBY
     go_wp2_with fail
     go_region_law (first
      | (go_simp; go_at_call 78; refine (HCB.out _ (below_drew _)).mono ?_; rintro e w4 ⟨a4, n4, c4, rfl, hO4, hb4⟩; have q1 := (HBX.out w4 (bt7 (below_drew _) hb4)).1; have q2 := (HBX.out w4 (bt7 (below_drew _) hb4)).2.2.2; have s4 := HS4.out w4 (bt7 (below_drew _) hb4); have s5 := HS5.out w4 (bt7 (below_drew _) hb4))
      | (refine step_append_g rfl _ _ _ rfl (w.heap.size + 3) 103 (.agg #[.int .i64 0, .slice none 0 0]) 2 32 Tryz.underlying28 infoWriteI rfl (by decide) (by decide) (.slice ya yn yc) j (wcs Uu) rfl (HBX.out _ (bt7 (bt7 (below_drew _) hb4) (below_new (Below.refl _ _)))).2.2.1 w4.heap.size [.int .i64 tt, .slice a4 n4 c4] rfl (rw_two (Bk.new w4 _ [_, _])) rfl (by intro u hu; simp at hu; rcases hu with rfl | rfl <;> rfl) hk6 (HSZ.out _ (bt7 (bt7 (below_drew _) hb4) (below_new (Below.refl _ _)))) (w.heap.size + 1 + 1) 1 _ (HBX.out _ (bt7 (bt7 (below_drew _) hb4) (below_new (Below.refl _ _)))).1 (HBX.out _ (bt7 (bt7 (below_drew _) hb4) (below_new (Below.refl _ _)))).2.1 HNE.out ?_; intro a5 n5 c5 w5 hO5 hg5 ha5 hc5 hf5))
     all_goals go_wp2
     all_goals exact ⟨⟨j + 1, a5, n5, c5, _, by omega, by go_num, HFIN.out w4 a4 n4 c4 a5 n5 c5 w5 hO4 (bt7 (below_drew _) hb4) hO5 hg5 ha5⟩, by simp [intOf]; omega⟩
    ·have hjd : j = d.dw.length := by rw [← HND.out]; omega
     have CE : Hid (CX w wr sa sn sc da dn dc xa xn xc ya yn yc V Uu d) := by
      have := CC.out
      rwa [hjd, List.take_length] at this
     clear CC hjd
     have c0 := CE.out.k2.cell (j := 0) rfl
     have c1 := CE.out.k2.cell (j := 1) rfl
     have r0 := CE.out.k1.cell (j := 0) rfl
     have r1 := CE.out.k1.cell (j := 1) rfl
     have f0 := CE.out.k1.free 0
     have f1 := CE.out.k1.free 1
     go_wp2
     try simp only [Exit.inBlock, Exit.then]
     refine bodyPost_ret (v := .agg #[.slice xa xn xc, .slice ya yn yc]) ?_ rfl ?_
     ·exact results_dsk rfl _ _ _ rfl (by go_simp) (by go_simp)
     ·have O1 : Only (fun y => y = w.heap.size + 1) wr ((wr.setCell ⟨w.heap.size + 1, 0, none⟩ (.slice xa xn xc)).setCell ⟨w.heap.size + 1, 1, none⟩ (.slice ya yn yc)) := (only_set (R := fun y => y = w.heap.size + 1) rfl _).trans (only_set (R := fun y => y = w.heap.size + 1) rfl _)
      exact ⟨_, _, _, _, _, _, _, _, rfl, (CE.out.own.to O1 (fun y e e2 => by have := (CE.out.own.lt e).1; omega)).base (by omega), (CE.out.bel.setCell (p := ⟨w.heap.size + 1, 0, none⟩) (Nat.le_succ _) _).setCell (p := ⟨w.heap.size + 1, 1, none⟩) (Nat.le_succ _) _⟩
open Go.RowKit
set_option linter.unusedVariables false
structure YX (w v : World) (sa : Option Addr) (sn sc : Nat) (da : Option Addr) (dn dc : Nat) (x : Value) (k : Nat) : Prop where
 bel : Below w.heap.size w v
 k0 : Bk v w.heap.size 30 [.slice sa sn sc, .slice da dn dc]
 k1 : Bk v (w.heap.size + 1) 30 [.slice none 0 0, .slice none 0 0]
 row : v.ownsRow (w.heap.size + 2) 3 1 x k (List.replicate k (.int .i64 512))
end Go.Proofs.YtidjehapeanpbaaGreatDoor
