/-
  Disks in the law's helpers: sizes summed, held against each other.
-/
import Derived.Test.YtcpdedpgjaimkaaDkM
import Derived.Test.YtcpdedpgjaimkaaNodeE
namespace Go.Proofs.Ytcpdedpgjaimkaa
open Go.RowKit
set_option linter.unusedVariables false
/-- How many bytes the first k lists have. -/
def offS (ss : List (List Int)) : Nat → Nat
  | 0 => 0
  | k + 1 => offS ss k + (shAt ss k).length
theorem offS_mono (ss : List (List Int)) {i n : Nat} (h : i ≤ n) : offS ss i ≤ offS ss n := by
  induction n with
  | zero => obtain rfl : i = 0 := by omega
            exact Nat.le_refl _
  | succ n ih =>
    by_cases e : i = n + 1
    · subst e; exact Nat.le_refl _
    · exact Nat.le_trans (ih (by omega)) (Nat.le_add_right _ _)
theorem offS_at (ss : List (List Int)) {i n : Nat} (h : i < n) : (shAt ss i).length ≤ offS ss n := by
  have := offS_mono ss (show i + 1 ≤ n by omega)
  simp only [offS] at this
  omega
/-- How much there is of a disk. -/
def dkSum (d : DK) : Nat := d.sh.length + offS d.sh d.sh.length + d.dw.length + offS (d.dw.map Prod.snd) d.dw.length
theorem small_of_sum {d : DK} (h : dkSum d ≤ 1048576) : smallD d ∧ d.sh.length ≤ 1048576 ∧ d.dw.length ≤ 1048576 := by
  unfold dkSum at h
  refine ⟨⟨fun i hi => ?_, fun i hi => ?_⟩, by omega, by omega⟩
  · have := offS_at d.sh hi; omega
  · have := offS_at (d.dw.map Prod.snd) hi; rw [shAt_map] at this; omega
theorem szByteS_at (a : Option Addr) (n c : Nat) (left : Int) (w : World) (hc : n ≤ 9223372036854775807) (h0 : 0 ≤ left) (h1 : left ≤ 1048576) :
    Calls Try.prog 159 #[.slice a n c, .int .i64 left] w fun e w' => (∃ y : Int, e = .returned (.int .i64 y) ∧ y ≤ left ∧ -1 ≤ y ∧ (0 ≤ y → y + (n : Int) = left)) ∧ w' = w := by
  by_cases hneg : left - (n : Int) < 0
  · go_enter Try.func159, Try.ntmps159
    go_wp2
    go_ret
    exact ⟨⟨_, rfl, by omega, by omega, fun h => by omega⟩, rfl⟩
  · go_enter Try.func159, Try.ntmps159
    go_wp2
    go_ret
    exact ⟨⟨_, rfl, by omega, by omega, fun h => by omega⟩, rfl⟩
set_option maxHeartbeats 2000000 in
theorem szSheet_any (a : Option Addr) (n c : Nat) (left : Int) (w : World) (hc : n ≤ 9223372036854775807) (h0 : 0 ≤ left) (h1 : left ≤ 1048576) :
    Calls Try.prog 113 #[.agg #[.slice a n c], .int .i64 left] w fun e w' => (∃ y : Int, e = .returned (.int .i64 y) ∧ y ≤ left ∧ -1 ≤ y ∧ (0 ≤ y → y + (n : Int) = left)) ∧ Below w.heap.size w w' := by
  have HB0 : Hid (Below w.heap.size w (w.alloc (.cells #[.slice a n c] 177))) := below_new (Below.refl _ _)
  go_enter Try.func113, Try.ntmps113
  go_wp2_with fail
  refine (szByteS_at a n c left _ hc h0 h1).mono ?_
  rintro e w1 ⟨⟨y, rfl, hy1, hy2, hy3⟩, rfl⟩
  have HY := hid hy3
  clear hy3
  by_cases hneg : y < 0
  · go_wp2
    go_ret
    exact ⟨⟨_, rfl, by omega, by omega, fun h => by omega⟩, HB0.out⟩
  · go_wp2
    go_ret
    exact ⟨⟨_, rfl, by omega, by omega, HY.out⟩, HB0.out⟩
set_option maxHeartbeats 2000000 in
theorem szWrite_any (t : Int) (a : Option Addr) (n c : Nat) (left : Int) (w : World) (hc : n ≤ 9223372036854775807) (h0 : 0 ≤ left) (h1 : left ≤ 1048576) :
    Calls Try.prog 114 #[.agg #[.int .i64 t, .slice a n c], .int .i64 left] w fun e w' => (∃ y : Int, e = .returned (.int .i64 y) ∧ y ≤ left ∧ -1 ≤ y ∧ (0 ≤ y → y + (n : Int) = left)) ∧ Below w.heap.size w w' := by
  have HB0 : Hid (Below w.heap.size w (w.alloc (.cells #[.int .i64 t, .slice a n c] 104))) := below_new (Below.refl _ _)
  go_enter Try.func114, Try.ntmps114
  go_wp2_with fail
  refine (szByteS_at a n c left _ hc h0 h1).mono ?_
  rintro e w1 ⟨⟨y, rfl, hy1, hy2, hy3⟩, rfl⟩
  have HY := hid hy3
  clear hy3
  by_cases hneg : y < 0
  · go_wp2
    go_ret
    exact ⟨⟨_, rfl, by omega, by omega, fun h => by omega⟩, HB0.out⟩
  · go_wp2
    go_ret
    exact ⟨⟨_, rfl, by omega, by omega, HY.out⟩, HB0.out⟩
set_option maxHeartbeats 2000000 in
theorem szSheetS_at (S : Nat → Prop) (a : Option Addr) (n c : Nat) (ss : List (List Int)) (left : Int) (w : World) (h : Shr w S (.slice a n c) ss) (h0 : 0 ≤ left) (h1 : left ≤ 1048576) :
    Calls Try.prog 49 #[.slice a n c, .int .i64 left] w fun e w' => (∃ x : Int, e = .returned (.int .i64 x) ∧ x ≤ left ∧ -1 ≤ x ∧ (0 ≤ x → x + ((n + offS ss n : Nat) : Int) = left)) ∧ Below w.heap.size w w' := by
  obtain ⟨hn, hnc, hcc⟩ := h.len
  have HN := hid hn
  have H0 := hid h
  clear h hn
  by_cases hbig : left - (n : Int) < 0
  · go_enter Try.func49, Try.ntmps49
    go_wp2
    go_ret
    exact ⟨⟨_, rfl, by omega, by omega, fun h => by omega⟩, Below.refl _ _⟩
  · have hn2 : n ≤ 1048576 := by omega
    go_enter Try.func49, Try.ntmps49
    go_wp2
    go_loopw [1, 5] (fun x i wr => ∃ (k : Nat) (y : Int), k ≤ n ∧ i = .int .i64 k ∧ x = .int .i64 y ∧ 0 ≤ y ∧ y ≤ left ∧ Hid (y + ((n + offS ss k : Nat) : Int) = left) ∧ Hid (Below w.heap.size w wr)) (fun _ i _ => n - (intOf i).toNat)
    case atStart => exact ⟨0, _, Nat.zero_le _, rfl, rfl, by omega, by omega, (by show _ = _; simp [offS]), Below.refl _ _⟩
    case round =>
      obtain ⟨k, y, hk, rfl, rfl, hy0, hy1, HS, HB⟩ := hrel
      by_cases hlt : k < n
      · have hlt' : (k : Int) < (n : Int) := by omega
        have HP := hid (H0.out.below HB.out)
        obtain ⟨b, off, rfl, _, hbw, hcell⟩ := HP.out.at (by omega)
        obtain ⟨ap, np, cp, c0, hp⟩ := hcell k hlt
        have l0 := hid hp.len.1
        have lc : np ≤ 9223372036854775807 := by have := hp.len.2; omega
        have HOF : Hid (offS ss (k + 1) = offS ss k + np) := by show _ = _; rw [offS, l0.out]
        clear hcell hbw HP hp
        go_wp2_with fail
        refine (szSheet_any ap np cp y wr lc hy0 (by omega)).mono ?_
        rintro e w1 ⟨⟨z, rfl, hz1, hz2, hz3⟩, hb1⟩
        have HB1 := hid (HB.out.trans (hb1.mono HB.out.size))
        have HZ3 := hid hz3
        clear hb1 hz3
        by_cases hneg : z < 0
        · go_wp2
          go_ret
          exact ⟨⟨_, rfl, by omega, by omega, fun h => by omega⟩, HB1.out⟩
        · have HS1 : Hid (z + ((n + offS ss (k + 1) : Nat) : Int) = left) := by
            have h2 := HZ3.out (by omega)
            have h3 := HS.out
            show _ = _
            rw [HOF.out]
            omega
          clear HOF HS HZ3
          go_wp2
          go_roundw
          case rel => exact ⟨k + 1, z, by omega, by go_num, rfl, by omega, by omega, HS1.out, HB1.out⟩
          case measure => simp [intOf]; omega
      · have hk' : k = n := by omega
        have HS1 : Hid (y + ((n + offS ss n : Nat) : Int) = left) := by rw [hk'] at HS; exact HS.out
        clear hk' HS
        go_wp2
        go_ret
        exact ⟨⟨_, rfl, by omega, by omega, fun _ => HS1.out⟩, HB.out⟩
set_option maxHeartbeats 2000000 in
theorem szWriteS_at (S : Nat → Prop) (a : Option Addr) (n c : Nat) (ss : List DW) (left : Int) (w : World) (h : Wrr w S (.slice a n c) ss) (h0 : 0 ≤ left) (h1 : left ≤ 1048576) :
    Calls Try.prog 50 #[.slice a n c, .int .i64 left] w fun e w' => (∃ x : Int, e = .returned (.int .i64 x) ∧ x ≤ left ∧ -1 ≤ x ∧ (0 ≤ x → x + ((n + offS (ss.map Prod.snd) n : Nat) : Int) = left)) ∧ Below w.heap.size w w' := by
  obtain ⟨hn, hnc, hcc⟩ := h.len
  have HN := hid hn
  have H0 := hid h
  clear h hn
  by_cases hbig : left - (n : Int) < 0
  · go_enter Try.func50, Try.ntmps50
    go_wp2
    go_ret
    exact ⟨⟨_, rfl, by omega, by omega, fun h => by omega⟩, Below.refl _ _⟩
  · have hn2 : n ≤ 1048576 := by omega
    go_enter Try.func50, Try.ntmps50
    go_wp2
    go_loopw [1, 5] (fun x i wr => ∃ (k : Nat) (y : Int), k ≤ n ∧ i = .int .i64 k ∧ x = .int .i64 y ∧ 0 ≤ y ∧ y ≤ left ∧ Hid (y + ((n + offS (ss.map Prod.snd) k : Nat) : Int) = left) ∧ Hid (Below w.heap.size w wr)) (fun _ i _ => n - (intOf i).toNat)
    case atStart => exact ⟨0, _, Nat.zero_le _, rfl, rfl, by omega, by omega, (by show _ = _; simp [offS]), Below.refl _ _⟩
    case round =>
      obtain ⟨k, y, hk, rfl, rfl, hy0, hy1, HS, HB⟩ := hrel
      by_cases hlt : k < n
      · have hlt' : (k : Int) < (n : Int) := by omega
        have HP := hid (H0.out.below HB.out)
        obtain ⟨b, off, rfl, _, hbw, hcell⟩ := HP.out.at (by omega)
        obtain ⟨ap, np, cp, ct, c0, hp⟩ := hcell k hlt
        have l0 := hid hp.len.1
        have lc : np ≤ 9223372036854775807 := by have := hp.len.2; omega
        have HOF : Hid (offS (ss.map Prod.snd) (k + 1) = offS (ss.map Prod.snd) k + np) := by show _ = _; rw [offS, l0.out, shAt_map]
        clear hcell hbw HP hp
        generalize (dwAt ss k).1 = tt at ct
        go_wp2_with fail
        refine (szWrite_any tt ap np cp y wr lc hy0 (by omega)).mono ?_
        rintro e w1 ⟨⟨z, rfl, hz1, hz2, hz3⟩, hb1⟩
        have HB1 := hid (HB.out.trans (hb1.mono HB.out.size))
        have HZ3 := hid hz3
        clear hb1 hz3
        by_cases hneg : z < 0
        · go_wp2
          go_ret
          exact ⟨⟨_, rfl, by omega, by omega, fun h => by omega⟩, HB1.out⟩
        · have HS1 : Hid (z + ((n + offS (ss.map Prod.snd) (k + 1) : Nat) : Int) = left) := by
            have h2 := HZ3.out (by omega)
            have h3 := HS.out
            show _ = _
            rw [HOF.out]
            omega
          clear HOF HS HZ3
          go_wp2
          go_roundw
          case rel => exact ⟨k + 1, z, by omega, by go_num, rfl, by omega, by omega, HS1.out, HB1.out⟩
          case measure => simp [intOf]; omega
      · have hk' : k = n := by omega
        have HS1 : Hid (y + ((n + offS (ss.map Prod.snd) n : Nat) : Int) = left) := by rw [hk'] at HS; exact HS.out
        clear hk' HS
        go_wp2
        go_ret
        exact ⟨⟨_, rfl, by omega, by omega, fun _ => HS1.out⟩, HB.out⟩
set_option maxHeartbeats 2000000 in
theorem szDisk_any (S : Nat → Prop) (sa : Option Addr) (sn sc : Nat) (da : Option Addr) (dn dc : Nat) (d : DK) (w : World) (h : Dk w S sa sn sc da dn dc d) :
    Calls Try.prog 12 #[.agg #[.slice sa sn sc, .slice da dn dc], .int .i64 1048576] w fun e w' => (∃ y : Int, e = .returned (.int .i64 y) ∧ y ≤ 1048576 ∧ -1 ≤ y ∧ (0 ≤ y → dkSum d ≤ 1048576)) ∧ Below w.heap.size w w' := by
  have HS := hid h.hs
  have HD := hid h.hd
  have HNS := hid h.hs.len.1
  have HND := hid h.hd.len.1
  clear h
  have HB0 : Hid (Below w.heap.size w (w.alloc (.cells #[.slice sa sn sc, .slice da dn dc] 39))) := below_new (Below.refl _ _)
  have KP : Hid (Bk (w.alloc (.cells #[.slice sa sn sc, .slice da dn dc] 39)) w.heap.size 39 [.slice sa sn sc, .slice da dn dc]) := Bk.new w 39 [.slice sa sn sc, .slice da dn dc]
  go_enter Try.func12, Try.ntmps12
  go_wp2_with fail
  refine (szSheetS_at S sa sn sc d.sh _ _ (HS.out.below HB0.out) (by omega) (by omega)).mono ?_
  generalize w.alloc (.cells #[.slice sa sn sc, .slice da dn dc] 39) = W at *
  rintro e w1 ⟨⟨y, rfl, hy1, hy2, hy3⟩, hb1⟩
  have HB1 := hid (HB0.out.trans (hb1.mono HB0.out.size))
  have KP1 := hid (KP.out.below hb1)
  have HY := hid hy3
  clear hb1 KP HB0 hy3
  by_cases hneg : y < 0
  · go_wp2
    go_ret
    exact ⟨⟨_, rfl, by omega, by omega, fun h => by omega⟩, HB1.out⟩
  · have c1 := KP1.out.cell (j := 1) rfl
    go_wp2_with fail
    refine (szWriteS_at S da dn dc d.dw y _ (HD.out.below HB1.out) (by omega) (by omega)).mono ?_
    rintro e w2 ⟨⟨z, rfl, hz1, hz2, hz3⟩, hb2⟩
    have HB2 := hid (HB1.out.trans (hb2.mono HB1.out.size))
    have HZ := hid hz3
    clear hb2 KP1 HB1 hz3 c1
    by_cases hneg2 : z < 0
    · go_wp2
      go_ret
      exact ⟨⟨_, rfl, by omega, by omega, fun h => by omega⟩, HB2.out⟩
    · have HF : Hid (dkSum d ≤ 1048576) := by
        have h1 := HY.out (by omega)
        have h2 := HZ.out (by omega)
        rw [HNS.out] at h1
        rw [HND.out] at h2
        show dkSum d ≤ _
        unfold dkSum
        omega
      clear HY HZ
      go_wp2
      go_ret
      exact ⟨⟨_, rfl, by omega, by omega, fun _ => HF.out⟩, HB2.out⟩
theorem eqByteS_bel (a a' : Option Addr) (n n' c c' : Nat) (zs zs' : List Int) (w : World) (h : Rd w a n c zs) (h' : Rd w a' n' c' zs') :
    Calls Try.prog 162 #[.slice a n c, .slice a' n' c'] w fun e w' => e = .returned (.bool (decide (zs = zs'))) ∧ Below w.heap.size w w' :=
  (eqByteS_any a a' n n' c c' zs zs' w h h').mono (fun e w' ⟨he, q, hw⟩ => ⟨he, by rw [hw]; exact Below.drewN' (Below.refl _ _) q⟩)
set_option maxHeartbeats 2000000 in
theorem eqSheet_any (a a' : Option Addr) (n n' c c' : Nat) (zs zs' : List Int) (w : World) (h : Rd w a n c zs) (h' : Rd w a' n' c' zs') :
    Calls Try.prog 125 #[.agg #[.slice a n c], .agg #[.slice a' n' c']] w fun e w' => e = .returned (.bool (decide (zs = zs'))) ∧ Below w.heap.size w w' := by
  have H0 := hid h
  have H0' := hid h'
  clear h h'
  have HB0 : Hid (Below w.heap.size w ((w.alloc (.cells #[.slice a n c] 119)).alloc (.cells #[.slice a' n' c'] 119))) := below_new (below_new (Below.refl _ _))
  go_enter Try.func125, Try.ntmps125
  go_wp2_with fail
  refine (eqByteS_bel a a' n n' c c' zs zs' _ (H0.out.kept HB0.out) (H0'.out.kept HB0.out)).mono ?_
  rintro e w1 ⟨rfl, hb1⟩
  have HB1 := hid (HB0.out.trans (hb1.mono HB0.out.size))
  clear hb1 HB0
  by_cases he : zs = zs'
  · have HE := hid (decide_eq_true he)
    rw [decide_eq_true he]
    clear he
    go_wp2
    go_ret
    exact ⟨by rw [HE.out]; rfl, HB1.out⟩
  · have HE := hid (decide_eq_false he)
    rw [decide_eq_false he]
    clear he
    go_wp2
    go_ret
    exact ⟨by rw [HE.out]; rfl, HB1.out⟩
set_option maxHeartbeats 2000000 in
theorem eqWrite_any (t t' : Int) (a a' : Option Addr) (n n' c c' : Nat) (zs zs' : List Int) (w : World) (h : Rd w a n c zs) (h' : Rd w a' n' c' zs') :
    Calls Try.prog 126 #[.agg #[.int .i64 t, .slice a n c], .agg #[.int .i64 t', .slice a' n' c']] w fun e w' => e = .returned (.bool (decide ((t, zs) = (t', zs')))) ∧ Below w.heap.size w w' := by
  have H0 := hid h
  have H0' := hid h'
  clear h h'
  have HB0 : Hid (Below w.heap.size w ((w.alloc (.cells #[.int .i64 t, .slice a n c] 109)).alloc (.cells #[.int .i64 t', .slice a' n' c'] 109))) := below_new (below_new (Below.refl _ _))
  by_cases ht : t = t'
  · subst ht
    have ht2 : (t != t) = false := by simp
    go_enter Try.func126, Try.ntmps126
    go_wp2_with fail
    refine (eqByteS_bel a a' n n' c c' zs zs' _ (H0.out.kept HB0.out) (H0'.out.kept HB0.out)).mono ?_
    rintro e w1 ⟨rfl, hb1⟩
    have HB1 := hid (HB0.out.trans (hb1.mono HB0.out.size))
    clear hb1 HB0
    by_cases he : zs = zs'
    · have HE : Hid (decide ((t, zs) = (t, zs')) = true) := by show _ = _; simp [he]
      rw [decide_eq_true he]
      clear he
      go_wp2
      go_ret
      exact ⟨by rw [HE.out]; rfl, HB1.out⟩
    · have HE : Hid (decide ((t, zs) = (t, zs')) = false) := by show _ = _; simp [he]
      rw [decide_eq_false he]
      clear he
      go_wp2
      go_ret
      exact ⟨by rw [HE.out]; rfl, HB1.out⟩
  · have ht2 : (t != t') = true := by simp [ht]
    have HE : Hid (decide ((t, zs) = (t', zs')) = false) := by show _ = _; simp [ht]
    clear ht
    go_enter Try.func126, Try.ntmps126
    go_wp2
    go_ret
    exact ⟨by rw [HE.out]; rfl, HB0.out⟩
set_option maxHeartbeats 4000000 in
theorem eqSheetS_at (S S' : Nat → Prop) (a a' : Option Addr) (n n' c c' : Nat) (l l' : List (List Int)) (w : World) (h : Shr w S (.slice a n c) l) (h' : Shr w S' (.slice a' n' c') l') (hs : ∀ i, i < l.length → (shAt l i).length ≤ 1048576) (hs' : ∀ i, i < l'.length → (shAt l' i).length ≤ 1048576) :
    Calls Try.prog 64 #[.slice a n c, .slice a' n' c'] w fun e w' => e = .returned (.bool (decide (l = l'))) ∧ Below w.heap.size w w' := by
  obtain ⟨hn, hnc, hcc⟩ := h.len
  obtain ⟨hn', hnc', hcc'⟩ := h'.len
  have HN := hid hn
  have HN' := hid hn'
  have H0 := hid h
  have H0' := hid h'
  have HSM := hid hs
  have HSM' := hid hs'
  clear h h' hn hn' hs hs'
  by_cases hne : n = n'
  · subst hne
    have hz : ((n : Int) != (n : Int)) = false := by simp
    go_enter Try.func64, Try.ntmps64
    go_wp2
    go_loopw [5] (fun i wr => ∃ k : Nat, k ≤ n ∧ i = .int .i64 k ∧ Hid (Below w.heap.size w wr) ∧ Hid (l.take k = l'.take k)) (fun i _ => n - (intOf i).toNat)
    case atStart => exact ⟨0, Nat.zero_le _, rfl, Below.refl _ _, rfl⟩
    case round =>
      obtain ⟨k, hk, rfl, HB, HT⟩ := hrel
      by_cases hlt : k < n
      · have hlt' : (k : Int) < (n : Int) := by omega
        have HP := hid (H0.out.below HB.out)
        have HP' := hid (H0'.out.below HB.out)
        obtain ⟨b, off, rfl, _, hbw, hcell⟩ := HP.out.at (by omega)
        obtain ⟨b', off', rfl, _, hbw', hcell'⟩ := HP'.out.at (by omega)
        obtain ⟨ap, np, cp, c0, hp⟩ := hcell k hlt
        obtain ⟨ap', np', cp', d0, hp'⟩ := hcell' k hlt
        have hr := hp.rd (by rw [hp.len.1]; exact HSM.out k (by rw [← HN.out]; exact hlt))
        have hr' := hp'.rd (by rw [hp'.len.1]; exact HSM'.out k (by rw [← HN'.out]; exact hlt))
        have HC : Hid (∀ v, Below wr.heap.size wr v → Calls Try.prog 125 #[.agg #[.slice ap np cp], .agg #[.slice ap' np' cp']] v fun e w' => e = .returned (.bool (decide (shAt l k = shAt l' k))) ∧ Below v.heap.size v w') := fun v hv =>
          eqSheet_any ap ap' np np' cp cp' (shAt l k) (shAt l' k) v (hr.kept hv) (hr'.kept hv)
        have HS : Hid (shAt l k = shAt l' k → l.take (k + 1) = l'.take (k + 1)) := by
          intro e
          have hl : k < l.length := by rw [← HN.out]; exact hlt
          have hl' : k < l'.length := by rw [← HN'.out]; exact hlt
          rw [List.take_succ_eq_append_getElem hl, List.take_succ_eq_append_getElem hl', HT.out]
          simp [shAt, hl, hl'] at e
          rw [e]
        have HF : Hid (shAt l k ≠ shAt l' k → decide (l = l') = false) := by
          intro e
          rw [decide_eq_false_iff_not]
          intro e'
          exact e (by rw [e'])
        have T0 := hid (kc0_2 c0 d0)
        clear hcell hcell' hbw hbw' HP HP' HT hp hp' hr hr' c0 d0 
        generalize shAt l k = cx1 at *
        generalize shAt l' k = cx2 at *
        by_cases he : cx1 = cx2
        · have HS1 := hid (HS.out he)
          rw [decide_eq_true he] at HC
          clear he HS HF
          go_wp2_with fail
          go_region_held3 (fun v => v.cell? ⟨b, off + k, none⟩ = some (.slice ap np cp) ∧ v.cell? ⟨b', off' + k, none⟩ = some (.slice ap' np' cp') ∧ KC wr v [(⟨b, off + k, none⟩, .slice ap np cp), (⟨b', off' + k, none⟩, .slice ap' np' cp')])
            (first | assumption | exact kc2 (T0.out.call (below_drew _)) | exact kc2c hbC (by assumption))
            (first | (go_at_call 125; refine (HC.out _ (KC.bel (by first | exact (by assumption : _ ∧ _ ∧ _).2.2))).mono ?_; rintro e w' ⟨rfl, hbC⟩))
          all_goals (rename_i hS; have HB1 := hid (Below.then' HB.out hS.2.2.bel (Nat.le_refl _)); clear hS; go_wp2)
          go_roundw
          case rel => exact ⟨k + 1, by omega, by go_num, HB1.out, HS1.out⟩
          case measure => simp [intOf]; omega
        · have HF1 := hid (HF.out he)
          rw [decide_eq_false he] at HC
          clear he HS HF
          go_wp2_with fail
          go_region_held3 (fun v => v.cell? ⟨b, off + k, none⟩ = some (.slice ap np cp) ∧ v.cell? ⟨b', off' + k, none⟩ = some (.slice ap' np' cp') ∧ KC wr v [(⟨b, off + k, none⟩, .slice ap np cp), (⟨b', off' + k, none⟩, .slice ap' np' cp')])
            (first | assumption | exact kc2 (T0.out.call (below_drew _)) | exact kc2c hbC (by assumption))
            (first | (go_at_call 125; refine (HC.out _ (KC.bel (by first | exact (by assumption : _ ∧ _ ∧ _).2.2))).mono ?_; rintro e w' ⟨rfl, hbC⟩))
          all_goals (rename_i hS; have HB1 := hid (Below.then' HB.out hS.2.2.bel (Nat.le_refl _)); clear hS; go_wp2)
          go_ret
          exact ⟨by rw [HF1.out]; rfl, HB1.out⟩
      · have HF : Hid (decide (l = l') = true) := by
          show decide (l = l') = true
          have hk' : k = n := by omega
          have e := HT.out
          have e1 : l.length ≤ k := by rw [← HN.out]; omega
          have e2 : l'.length ≤ k := by rw [← HN'.out]; omega
          rw [List.take_of_length_le e1, List.take_of_length_le e2] at e
          simp [e]
        clear HT
        go_wp2
        go_ret
        exact ⟨by rw [HF.out]; rfl, HB.out⟩
  · have hz : ((n : Int) != (n' : Int)) = true := by simp; omega
    have HF : Hid (decide (l = l') = false) := by
      show decide (l = l') = false
      rw [decide_eq_false_iff_not]
      intro e
      exact hne (by rw [HN.out, HN'.out, e])
    clear hne
    go_enter Try.func64, Try.ntmps64
    go_wp2
    go_ret
    exact ⟨by rw [HF.out]; rfl, Below.refl _ _⟩
set_option maxHeartbeats 4000000 in
theorem eqWriteS_at (S S' : Nat → Prop) (a a' : Option Addr) (n n' c c' : Nat) (l l' : List DW) (w : World) (h : Wrr w S (.slice a n c) l) (h' : Wrr w S' (.slice a' n' c') l') (hs : ∀ i, i < l.length → (dwAt l i).2.length ≤ 1048576) (hs' : ∀ i, i < l'.length → (dwAt l' i).2.length ≤ 1048576) :
    Calls Try.prog 65 #[.slice a n c, .slice a' n' c'] w fun e w' => e = .returned (.bool (decide (l = l'))) ∧ Below w.heap.size w w' := by
  obtain ⟨hn, hnc, hcc⟩ := h.len
  obtain ⟨hn', hnc', hcc'⟩ := h'.len
  have HN := hid hn
  have HN' := hid hn'
  have H0 := hid h
  have H0' := hid h'
  have HSM := hid hs
  have HSM' := hid hs'
  clear h h' hn hn' hs hs'
  by_cases hne : n = n'
  · subst hne
    have hz : ((n : Int) != (n : Int)) = false := by simp
    go_enter Try.func65, Try.ntmps65
    go_wp2
    go_loopw [5] (fun i wr => ∃ k : Nat, k ≤ n ∧ i = .int .i64 k ∧ Hid (Below w.heap.size w wr) ∧ Hid (l.take k = l'.take k)) (fun i _ => n - (intOf i).toNat)
    case atStart => exact ⟨0, Nat.zero_le _, rfl, Below.refl _ _, rfl⟩
    case round =>
      obtain ⟨k, hk, rfl, HB, HT⟩ := hrel
      by_cases hlt : k < n
      · have hlt' : (k : Int) < (n : Int) := by omega
        have HP := hid (H0.out.below HB.out)
        have HP' := hid (H0'.out.below HB.out)
        obtain ⟨b, off, rfl, _, hbw, hcell⟩ := HP.out.at (by omega)
        obtain ⟨b', off', rfl, _, hbw', hcell'⟩ := HP'.out.at (by omega)
        obtain ⟨ap, np, cp, ct, c0, hp⟩ := hcell k hlt
        obtain ⟨ap', np', cp', dt, d0, hp'⟩ := hcell' k hlt
        have hr := hp.rd (by rw [hp.len.1]; exact HSM.out k (by rw [← HN.out]; exact hlt))
        have hr' := hp'.rd (by rw [hp'.len.1]; exact HSM'.out k (by rw [← HN'.out]; exact hlt))
        have HC : Hid (∀ v, Below wr.heap.size wr v → Calls Try.prog 126 #[.agg #[.int .i64 (dwAt l k).1, .slice ap np cp], .agg #[.int .i64 (dwAt l' k).1, .slice ap' np' cp']] v fun e w' => e = .returned (.bool (decide (dwAt l k = dwAt l' k))) ∧ Below v.heap.size v w') := fun v hv =>
          eqWrite_any (dwAt l k).1 (dwAt l' k).1 ap ap' np np' cp cp' (dwAt l k).2 (dwAt l' k).2 v (hr.kept hv) (hr'.kept hv)
        have HS : Hid (dwAt l k = dwAt l' k → l.take (k + 1) = l'.take (k + 1)) := by
          intro e
          have hl : k < l.length := by rw [← HN.out]; exact hlt
          have hl' : k < l'.length := by rw [← HN'.out]; exact hlt
          rw [List.take_succ_eq_append_getElem hl, List.take_succ_eq_append_getElem hl', HT.out]
          simp [dwAt, hl, hl'] at e
          rw [e]
        have HF : Hid (dwAt l k ≠ dwAt l' k → decide (l = l') = false) := by
          intro e
          rw [decide_eq_false_iff_not]
          intro e'
          exact e (by rw [e'])
        have T0 := hid (kc0_4 ct c0 dt d0)
        clear hcell hcell' hbw hbw' HP HP' HT hp hp' hr hr' ct c0 dt d0 
        generalize dwAt l k = cx1 at *
        generalize dwAt l' k = cx2 at *
        by_cases he : cx1 = cx2
        · have HS1 := hid (HS.out he)
          rw [decide_eq_true he] at HC
          clear he HS HF
          go_wp2_with fail
          go_region_held3 (fun v => v.cell? ⟨b, off + k * 2, none⟩ = some (.int .i64 cx1.1) ∧ v.cell? ⟨b, off + k * 2 + 1, none⟩ = some (.slice ap np cp) ∧ v.cell? ⟨b', off' + k * 2, none⟩ = some (.int .i64 cx2.1) ∧ v.cell? ⟨b', off' + k * 2 + 1, none⟩ = some (.slice ap' np' cp') ∧ KC wr v [(⟨b, off + k * 2, none⟩, .int .i64 cx1.1), (⟨b, off + k * 2 + 1, none⟩, .slice ap np cp), (⟨b', off' + k * 2, none⟩, .int .i64 cx2.1), (⟨b', off' + k * 2 + 1, none⟩, .slice ap' np' cp')])
            (first | assumption | exact kc4 (T0.out.call (below_drew _)) | exact kc4c hbC (by assumption))
            (first | (go_at_call 126; refine (HC.out _ (KC.bel (by first | exact (by assumption : _ ∧ _ ∧ _ ∧ _ ∧ _).2.2.2.2))).mono ?_; rintro e w' ⟨rfl, hbC⟩))
          all_goals (rename_i hS; have HB1 := hid (Below.then' HB.out hS.2.2.2.2.bel (Nat.le_refl _)); clear hS; go_wp2)
          go_roundw
          case rel => exact ⟨k + 1, by omega, by go_num, HB1.out, HS1.out⟩
          case measure => simp [intOf]; omega
        · have HF1 := hid (HF.out he)
          rw [decide_eq_false he] at HC
          clear he HS HF
          go_wp2_with fail
          go_region_held3 (fun v => v.cell? ⟨b, off + k * 2, none⟩ = some (.int .i64 cx1.1) ∧ v.cell? ⟨b, off + k * 2 + 1, none⟩ = some (.slice ap np cp) ∧ v.cell? ⟨b', off' + k * 2, none⟩ = some (.int .i64 cx2.1) ∧ v.cell? ⟨b', off' + k * 2 + 1, none⟩ = some (.slice ap' np' cp') ∧ KC wr v [(⟨b, off + k * 2, none⟩, .int .i64 cx1.1), (⟨b, off + k * 2 + 1, none⟩, .slice ap np cp), (⟨b', off' + k * 2, none⟩, .int .i64 cx2.1), (⟨b', off' + k * 2 + 1, none⟩, .slice ap' np' cp')])
            (first | assumption | exact kc4 (T0.out.call (below_drew _)) | exact kc4c hbC (by assumption))
            (first | (go_at_call 126; refine (HC.out _ (KC.bel (by first | exact (by assumption : _ ∧ _ ∧ _ ∧ _ ∧ _).2.2.2.2))).mono ?_; rintro e w' ⟨rfl, hbC⟩))
          all_goals (rename_i hS; have HB1 := hid (Below.then' HB.out hS.2.2.2.2.bel (Nat.le_refl _)); clear hS; go_wp2)
          go_ret
          exact ⟨by rw [HF1.out]; rfl, HB1.out⟩
      · have HF : Hid (decide (l = l') = true) := by
          show decide (l = l') = true
          have hk' : k = n := by omega
          have e := HT.out
          have e1 : l.length ≤ k := by rw [← HN.out]; omega
          have e2 : l'.length ≤ k := by rw [← HN'.out]; omega
          rw [List.take_of_length_le e1, List.take_of_length_le e2] at e
          simp [e]
        clear HT
        go_wp2
        go_ret
        exact ⟨by rw [HF.out]; rfl, HB.out⟩
  · have hz : ((n : Int) != (n' : Int)) = true := by simp; omega
    have HF : Hid (decide (l = l') = false) := by
      show decide (l = l') = false
      rw [decide_eq_false_iff_not]
      intro e
      exact hne (by rw [HN.out, HN'.out, e])
    clear hne
    go_enter Try.func65, Try.ntmps65
    go_wp2
    go_ret
    exact ⟨by rw [HF.out]; rfl, Below.refl _ _⟩
set_option maxHeartbeats 2000000 in
theorem eqDisk_any (S S' : Nat → Prop) (sa : Option Addr) (sn sc : Nat) (da : Option Addr) (dn dc : Nat) (d : DK) (sa' : Option Addr) (sn' sc' : Nat) (da' : Option Addr) (dn' dc' : Nat) (d' : DK) (w : World) (h : Dk w S sa sn sc da dn dc d) (h' : Dk w S' sa' sn' sc' da' dn' dc' d') (hs : smallD d) (hs' : smallD d') :
    Calls Try.prog 18 #[.agg #[.slice sa sn sc, .slice da dn dc], .agg #[.slice sa' sn' sc', .slice da' dn' dc']] w fun e w' => e = .returned (.bool (decide (d = d'))) ∧ Below w.heap.size w w' := by
  have H0 := hid h
  have H0' := hid h'
  have HS := hid hs
  have HS' := hid hs'
  clear h h' hs hs'
  have HB0 : Hid (Below w.heap.size w ((w.alloc (.cells #[.slice sa sn sc, .slice da dn dc] 46)).alloc (.cells #[.slice sa' sn' sc', .slice da' dn' dc'] 46))) := below_new (below_new (Below.refl _ _))
  have KA : Hid (Bk ((w.alloc (.cells #[.slice sa sn sc, .slice da dn dc] 46)).alloc (.cells #[.slice sa' sn' sc', .slice da' dn' dc'] 46)) w.heap.size 46 [.slice sa sn sc, .slice da dn dc]) := (Bk.new w 46 [.slice sa sn sc, .slice da dn dc]).alloc _
  have KB : Hid (Bk ((w.alloc (.cells #[.slice sa sn sc, .slice da dn dc] 46)).alloc (.cells #[.slice sa' sn' sc', .slice da' dn' dc'] 46)) (w.heap.size + 1) 46 [.slice sa' sn' sc', .slice da' dn' dc']) := by
    have := Bk.new (w.alloc (.cells #[.slice sa sn sc, .slice da dn dc] 46)) 46 [.slice sa' sn' sc', .slice da' dn' dc']
    show Bk _ _ _ _
    simpa using this
  go_enter Try.func18, Try.ntmps18
  go_wp2_with fail
  refine (eqSheetS_at S S' sa sa' sn sn' sc sc' d.sh d'.sh _ (H0.out.hs.below HB0.out) (H0'.out.hs.below HB0.out) HS.out.1 HS'.out.1).mono ?_
  generalize (w.alloc (.cells #[.slice sa sn sc, .slice da dn dc] 46)).alloc (.cells #[.slice sa' sn' sc', .slice da' dn' dc'] 46) = W at *
  rintro e w1 ⟨rfl, hb1⟩
  have HB1 := hid (HB0.out.trans (hb1.mono HB0.out.size))
  have KA1 := hid (KA.out.below hb1)
  have KB1 := hid (KB.out.below hb1)
  clear hb1 HB0 KA KB
  by_cases h1 : d.sh = d'.sh
  · rw [decide_eq_true h1]
    have HH1 := hid h1
    clear h1
    have c0 := KA1.out.cell (j := 1) rfl
    have d0 := KB1.out.cell (j := 1) rfl
    go_wp2_with fail
    refine (eqWriteS_at S S' da da' dn dn' dc dc' d.dw d'.dw _ (H0.out.hd.below HB1.out) (H0'.out.hd.below HB1.out) HS.out.2 HS'.out.2).mono ?_
    rintro e w2 ⟨rfl, hb2⟩
    have HB2 := hid (HB1.out.trans (hb2.mono HB1.out.size))
    clear hb2 HB1 KA1 KB1 c0 d0
    by_cases h2 : d.dw = d'.dw
    · rw [decide_eq_true h2]
      have HF : Hid (decide (d = d') = true) := by
        show _ = _
        rw [decide_eq_true_eq]
        have e1 := HH1.out
        cases d; cases d'; simp_all
      clear h2
      go_wp2
      go_ret
      exact ⟨by rw [HF.out]; rfl, HB2.out⟩
    · rw [decide_eq_false h2]
      have HF : Hid (decide (d = d') = false) := by
        show _ = _
        rw [decide_eq_false_iff_not]
        rintro rfl
        exact h2 rfl
      clear h2
      go_wp2
      go_ret
      exact ⟨by rw [HF.out]; rfl, HB2.out⟩
  · rw [decide_eq_false h1]
    have HF : Hid (decide (d = d') = false) := by
      show _ = _
      rw [decide_eq_false_iff_not]
      rintro rfl
      exact h1 rfl
    clear h1
    go_wp2
    go_ret
    exact ⟨by rw [HF.out]; rfl, HB1.out⟩
end Go.Proofs.Ytcpdedpgjaimkaa

