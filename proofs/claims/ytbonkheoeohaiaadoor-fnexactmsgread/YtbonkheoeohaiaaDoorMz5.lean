/-
  The law FnExactMsgRead answers true at every row of bytes.
-/
import Derived.Test.YtbonkheoeohaiaaDoorMz4
import Derived.Test.YtbonkheoeohaiaaDoorMb15
import Derived.Test.YtbonkheoeohaiaaDoorMb27
import Derived.BigFrame
namespace Go.Proofs.YtbonkheoeohaiaaDoor
open Go.RowKit
set_option linter.unusedVariables false
theorem nrd_ex (zs : List Int) : ∀ (k : Nat) (p : Int), ∃ l q, l.length = k ∧ NRd zs p l q
  | 0, p => ⟨[], p, rfl, rfl⟩
  | k + 1, p => by
    obtain ⟨l, q, h1, h2⟩ := nrd_ex zs k (gv zs p).2
    exact ⟨(gv zs p).1 :: l, q, by simp [h1], _, rfl, h2⟩
theorem trd_ex (zs : List Int) : ∀ (k : Nat) (p : Int), ∃ l q, l.length = k ∧ TRd zs p l q
  | 0, p => ⟨[], p, rfl, rfl⟩
  | k + 1, p => by
    obtain ⟨l, q, h1, h2⟩ := trd_ex zs k (gt zs p).2
    exact ⟨strOf (gt zs p).1 :: l, q, by simp [h1], _, rfl, h2⟩
theorem prd_ex (zs : List Int) : ∀ (k : Nat) (p : Int), ∃ l q, l.length = k ∧ PRd zs p l q
  | 0, p => ⟨[], p, rfl, rfl⟩
  | k + 1, p => by
    obtain ⟨l, q, h1, h2⟩ := prd_ex zs k (gt zs (gt zs p).2).2
    exact ⟨(strOf (gt zs p).1, strOf (gt zs (gt zs p).2).1) :: l, q, by simp [h1], _, ⟨_, rfl, _, rfl, rfl⟩, h2⟩
theorem trc_ex (zs : List Int) : ∃ m, Trc 8 zs m := by
  obtain ⟨l, p1, h1, k1⟩ := nrd_ex zs 8 0
  obtain ⟨x0, x1, x2, x3, x4, x5, x6, x7, rfl⟩ := len8 h1
  obtain ⟨l, p2, h2, k2⟩ := trd_ex zs 4 p1
  obtain ⟨s0, s1, s2, s3, rfl⟩ := len4 h2
  obtain ⟨l, p3, h3, k3⟩ := nrd_ex zs 4 p2
  obtain ⟨y0, y1, y2, y3, rfl⟩ := len4 h3
  obtain ⟨ps, p4, h4, k4⟩ := prd_ex zs (max 0 (min y3 8)).toNat p3
  exact ⟨⟨x0, x1, x2, x3, x4, x5, x6, x7, s0, s1, s2, s3, y0, decide (y1 = 1), y2, ps, decide ((gv zs p4).1 = 1)⟩, p1, p2, p3, p4, (gv zs p4).2, y1, y3, (gv zs p4).1, k1, k2, k3, k4, by show (ps.length : Int) = _; rw [h4]; omega, ⟨_, rfl, rfl⟩, rfl, rfl⟩
theorem bytes_inj {zs : List Int} {m m' : MS} (h : m.bytes = some zs) (h' : m'.bytes = some zs) : m = m' := by
  obtain ⟨m0, k⟩ := trc_ex zs
  exact (trc_bytes (by omega) k h).symm.trans (trc_bytes (by omega) k h')
def MS0 : MS := ⟨0, 0, 0, 0, 0, 0, 0, 0, ⟨#[]⟩, ⟨#[]⟩, ⟨#[]⟩, ⟨#[]⟩, 0, false, 0, [], false⟩
/-- What comes of reading. -/
def Out (zs : List Int) (m : MS) (b : Bool) : Prop := (b = true ∧ m.bytes = some zs) ∨ (b = false ∧ (∀ m : MS, m.bytes ≠ some zs) ∧ m = MS0)
theorem Out.uniq {zs : List Int} {m m' : MS} {b b' : Bool} (h : Out zs m b) (h' : Out zs m' b') : m' = m ∧ b' = b := by
  rcases h with ⟨rfl, h⟩ | ⟨rfl, h, rfl⟩ <;> rcases h' with ⟨rfl, h'⟩ | ⟨rfl, h', rfl⟩
  · exact ⟨bytes_inj h' h, rfl⟩
  · exact absurd h (h' _)
  · exact absurd h' (h _)
  · exact ⟨rfl, rfl⟩
theorem Out.small {zs : List Int} {m : MS} {b : Bool} (h : Out zs m b) : m.ps.length ≤ 8 := by
  rcases h with ⟨_, h⟩ | ⟨_, _, rfl⟩
  · unfold MS.bytes mgBytes at h
    split at h
    · rename_i hok
      exact (mgOk_facts hok).hpl
    · cases h
  · decide
theorem RdP.see {zs : List Int} {w w' : World} {r : Ending} (h : RdP zs w r w') : ∃ (m : MS) (pa : Option Addr) (pn pc : Nat) (b : Bool), r = .returned (.tuple #[.agg #[.int .i64 m.kd, .int .i64 m.c, .int .i64 m.e, .int .i64 m.n, .int .i64 m.sh, .int .i64 m.nu, .int .i64 m.st, .int .i64 m.k, .string m.ky, .string m.vl, .string m.lo, .string m.hi, .int .i64 m.mo, .bool m.bk, .int .i64 m.cd, .slice pa pn pc, .bool m.ys], .bool b]) ∧ oqW w' w.heap.size (.slice pa pn pc) m.ps ∧ Below w.heap.size w w' ∧ Out zs m b := by
  obtain ⟨hb, ⟨m, pa, pn, pc, h1, rfl, h2⟩ | ⟨h1, rfl⟩⟩ := h
  · exact ⟨m, pa, pn, pc, true, rfl, h2, hb, .inl ⟨rfl, h1⟩⟩
  · exact ⟨MS0, none, 0, 0, false, rfl, oqw_nil _ _, hb, .inr ⟨rfl, h1, rfl⟩⟩
set_option maxHeartbeats 1600000 in
theorem heldMsg_any (kd c e n sh nu st k : Int) (ky vl lo hi : ByteArray) (mo : Int) (bk : Bool) (cd : Int) (pa : Option Addr) (pn pc : Nat) (ys : Bool) (q : Nat) (w : World) (h : Lies w pa pn (pn * 2) (mV q)) (hc : pn ≤ pc) (hn : pn ≤ 1048576) (hk0 : 0 < q) (hk : q ≤ 576460752303423488) :
    Calls Tryd.prog 20 #[.agg #[.int .i64 kd, .int .i64 c, .int .i64 e, .int .i64 n, .int .i64 sh, .int .i64 nu, .int .i64 st, .int .i64 k, .string ky, .string vl, .string lo, .string hi, .int .i64 mo, .bool bk, .int .i64 cd, .slice pa pn pc, .bool ys], .int .i64 q] w fun r w' => r = .returned (.int .i64 ((q + pn * 2 : Nat) : Int)) ∧ Below w.heap.size w w' := by
  have B0 := hid (below_new (o := .cells #[.int .i64 kd, .int .i64 c, .int .i64 e, .int .i64 n, .int .i64 sh, .int .i64 nu, .int .i64 st, .int .i64 k, .string ky, .string vl, .string lo, .string hi, .int .i64 mo, .bool bk, .int .i64 cd, .slice pa pn pc, .bool ys] 31) (w := w) (Below.refl _ _))
  have C1 := hid (heldPairS_any pa pn pc q _ (h.below B0.out) hc hn hk0 hk)
  clear h
  have hneg : ¬ ((q + pn * 2 : Nat) : Int) < 0 := by omega
  generalize q + pn * 2 = z at *
  go_enter Tryd.func20, Tryd.ntmps20
  go_wp2_with fail
  refine C1.out.mono ?_
  rintro r w1 ⟨rfl, hb⟩
  have B1 := hid (btR B0.out hb)
  clear hb B0 C1
  go_wp2
  go_ret
  exact ⟨rfl, B1.out⟩
theorem rd_cp (v : World) {w : World} {a : Option Addr} {n c : Nat} {zs : List Int} (h : Rd w a n c zs) : Rd (v.alloc (.cells (byteVals zs) 5)) (some ⟨v.heap.size, 0, none⟩) n n zs := by
  have := rd_new v zs (by have := h.1; have := h.2.2.2.1; omega) h.2.2.2.2.1
  rwa [← h.1] at this
set_option maxHeartbeats 16000000 in
set_option maxRecDepth 20000 in
theorem lawMsgRead_road (a : Option Addr) (n c : Nat) (zs : List Int) (w : World) (h : Rd w a n c zs) (hn : n ≤ 1048576) :
    Calls Tryd.prog 5 #[.slice a n c] w fun e w' => e = .returned (.bool true) ∧ Below w.heap.size w w' := by
  have hbig : ¬ (1048576 : Int) < (n : Int) := by omega
  have H0 := hid h
  clear h
  go_enter Tryd.func5, Tryd.ntmps5
  go_wp2_with fail
  refine (toByteS_any a n c zs w H0.out).mono ?_
  rintro r w1 ⟨rfl, hw1⟩
  have R1 : Hid (Rd w1 (some ⟨w.heap.size, 0, none⟩) n n zs) := by rw [hw1]; exact rd_cp w H0.out
  have B1 : Hid (Below w.heap.size w w1) := by rw [hw1]; exact below_new (Below.refl _ _)
  clear hw1
  go_wp2_with fail
  refine (specMsgRead_any _ n n zs w1 R1.out).mono ?_
  intro r w2 hp
  obtain ⟨m, pa, pn, pc, b, rfl, hO, hb, hout⟩ := hp.see
  have HOUT := hid hout
  have hbN := below_new (o := .cells #[.int .i64 m.kd, .int .i64 m.c, .int .i64 m.e, .int .i64 m.n, .int .i64 m.sh, .int .i64 m.nu, .int .i64 m.st, .int .i64 m.k, .string m.ky, .string m.vl, .string m.lo, .string m.hi, .int .i64 m.mo, .bool m.bk, .int .i64 m.cd, .slice pa pn pc, .bool m.ys] 31) (w := w2) (Below.refl _ _)
  obtain ⟨BW, HBW⟩ : ∃ BW, w1.heap.size = BW := ⟨_, rfl⟩
  rw [HBW] at hO
  have C2 := hid (MB9.new (kd := m.kd) (c := m.c) (e := m.e) (n := m.n) (sh := m.sh) (nu := m.nu) (st := m.st) (k := m.k) (ky := m.ky) (vl := m.vl) (lo := m.lo) (hi := m.hi) (mo := m.mo) (bk := m.bk) (cd := m.cd) (ys := m.ys) hO)
  have B2 := hid (btR B1.out (btR hb hbN))
  clear hp hout hO hb hbN HBW R1 B1
  go_wp2_with (refine wpList_store_row rfl 31 _ _ rfl w2.heap.size _ rfl rfl 31 _ (heap_alloc_new w2 _) (by kernel_rfl) rfl (by kernel_rfl) ?_; rw [World.setRow_alloc_new])
  refine (toByteS_any a n c zs _ (H0.out.kept B2.out)).mono ?_
  generalize w2.alloc (.cells #[.int .i64 m.kd, .int .i64 m.c, .int .i64 m.e, .int .i64 m.n, .int .i64 m.sh, .int .i64 m.nu, .int .i64 m.st, .int .i64 m.k, .string m.ky, .string m.vl, .string m.lo, .string m.hi, .int .i64 m.mo, .bool m.bk, .int .i64 m.cd, .slice pa pn pc, .bool m.ys] 31) = V2 at *
  generalize w2.heap.size = bW at *
  rintro r w3 ⟨rfl, hw3⟩
  have hW : bW < V2.heap.size := C2.out.box.lt
  have R3 : Hid (Rd w3 (some ⟨V2.heap.size, 0, none⟩) n n zs) := by rw [hw3]; exact rd_cp V2 H0.out
  have WB3 : Hid (Wb w3 (some ⟨V2.heap.size, 0, none⟩) n) := by rw [hw3]; exact wb_new V2 _ _ _
  have b3 : Below V2.heap.size V2 w3 := by rw [hw3]; exact below_new (Below.refl _ _)
  have hg3 : V2.heap.size < w3.heap.size := by rw [hw3]; simp
  have C3 := hid (C2.out.below b3)
  have B3 := hid (btR B2.out b3)
  have hgw : w.heap.size ≤ V2.heap.size := B2.out.size
  clear hw3 b3 C2 B2
  generalize V2.heap.size = gx at *
  go_wp2_with fail
  refine (implMsgRead_any _ n n zs w3 R3.out).mono ?_
  intro r w4 hp
  obtain ⟨m', qa, qn, qc, b', rfl, hO, hb, hout⟩ := hp.see
  obtain ⟨rfl, rfl⟩ := HOUT.out.uniq hout
  have hqn : qn ≤ 1048576 := by have := (Rw.len hO.r).1; have := HOUT.out.small; omega
  have hqc : qn ≤ qc := (Rw.len hO.r).2.1
  have hbN := below_new (o := .cells #[.int .i64 m'.kd, .int .i64 m'.c, .int .i64 m'.e, .int .i64 m'.n, .int .i64 m'.sh, .int .i64 m'.nu, .int .i64 m'.st, .int .i64 m'.k, .string m'.ky, .string m'.vl, .string m'.lo, .string m'.hi, .int .i64 m'.mo, .bool m'.bk, .int .i64 m'.cd, .slice qa qn qc, .bool m'.ys] 31) (w := w4) (Below.refl _ _)
  obtain ⟨BG, HBG⟩ : ∃ BG, w3.heap.size = BG := ⟨_, rfl⟩
  rw [HBG] at hO hg3
  have D4 := hid (MB9.new (kd := m'.kd) (c := m'.c) (e := m'.e) (n := m'.n) (sh := m'.sh) (nu := m'.nu) (st := m'.st) (k := m'.k) (ky := m'.ky) (vl := m'.vl) (lo := m'.lo) (hi := m'.hi) (mo := m'.mo) (bk := m'.bk) (cd := m'.cd) (ys := m'.ys) hO)
  have C4 := hid (C3.out.below (btR hb hbN))
  have B4 := hid (btR B3.out (btR hb hbN))
  have R4 := hid (R3.out.kept (btR hb hbN))
  have WB4 := hid (WB3.out.below (btR hb hbN) R3.out.lt)
  have hG : BG ≤ w4.heap.size := by rw [← HBG]; exact hb.size
  clear hp hout hO hb hbN HBG C3 B3 R3 WB3
  go_wp2_with (first
    | (refine wpList_store_row rfl 31 _ _ rfl w4.heap.size _ rfl rfl 31 _ (heap_alloc_new w4 _) (by kernel_rfl) rfl (by kernel_rfl) ?_; rw [World.setRow_alloc_new])
    | (refine wpList_load_row rfl 31 _ rfl w4.heap.size rfl 31 _ (0, 0) _ D4.out.box Tryd.underlying31 rfl (by kernel_rfl) ?_)
    | (refine wpList_load_row rfl 31 _ rfl bW rfl 31 _ (0, 0) _ C4.out.box Tryd.underlying31 rfl (by kernel_rfl) ?_))
  refine (eqMsg_same (fun _ => True) (fun _ => True) m'.ps m'.kd m'.c m'.e m'.n m'.sh m'.nu m'.st m'.k m'.ky m'.vl m'.lo m'.hi m'.mo m'.bk m'.cd _ _ _ m'.ys _ _ _ _ D4.out.own.r C4.out.own.r).mono ?_
  generalize w4.alloc (.cells #[.int .i64 m'.kd, .int .i64 m'.c, .int .i64 m'.e, .int .i64 m'.n, .int .i64 m'.sh, .int .i64 m'.nu, .int .i64 m'.st, .int .i64 m'.k, .string m'.ky, .string m'.vl, .string m'.lo, .string m'.hi, .int .i64 m'.mo, .bool m'.bk, .int .i64 m'.cd, .slice qa qn qc, .bool m'.ys] 31) = V4 at *
  generalize w4.heap.size = bG at *
  rintro r w5 ⟨rfl, hb⟩
  have C5 := hid (C4.out.below hb)
  have D5 := hid (D4.out.below hb)
  have B5 := hid (btR B4.out hb)
  have R5 := hid (R4.out.kept hb)
  have WB5 := hid (WB4.out.below hb R4.out.lt)
  clear hb C4 D4 B4 R4 WB4
  have hbb : (b' != b') = false := by simp
  go_wp2_with fail
  refine (toByteS_any a n c zs _ (H0.out.kept B5.out)).mono ?_
  rintro r w6 ⟨rfl, hw6⟩
  have R6n : Hid (Rd w6 (some ⟨w5.heap.size, 0, none⟩) n n zs) := by rw [hw6]; exact rd_cp w5 H0.out
  have b6 : Below w5.heap.size w5 w6 := by rw [hw6]; exact below_new (Below.refl _ _)
  clear hw6
  go_wp2_with fail
  refine (eqByteS_same _ _ n n n n zs _ (R5.out.kept b6) R6n.out).mono ?_
  rintro r w7 ⟨rfl, q7, hw7⟩
  have b7 : Below w5.heap.size w5 w7 := btR b6 (by rw [hw7]; exact Below.drewN' (Below.refl _ _) q7)
  have C7 := hid (C5.out.below b7)
  have D7 := hid (D5.out.below b7)
  have B7 := hid (btR B5.out b7)
  have R7 := hid (R5.out.kept b7)
  have WB7 := hid (WB5.out.below b7 R5.out.lt)
  clear hw7 b6 b7 R6n C5 D5 B5 R5 WB5
  go_wp2_with fail
  refine (mark_any _ n n zs 1 _ R7.out WB7.out (by omega) (by omega)).mono ?_
  rintro r w8 ⟨rfl, hm8, hg8⟩
  have ho8 : Only (fun y => gx = y) w7 w8 := only_of_grown hg8 (fun k e => Option.some.inj e)
  have C8 := hid (C7.out.to ho8 (by omega) (fun y hy e => by have := C7.out.sep y hy; omega))
  have D8 := hid (D7.out.to ho8 (by omega) (fun y hy e => by have := D7.out.own.lt hy; omega))
  have B8 : Hid (Below w.heap.size w w8) := B7.out.trans (ho8.below B7.out.size (fun y hy e => by omega))
  clear hm8 hg8 ho8 C7 D7 B7 R7 WB7
  have hk1 : ¬ (1 + (n : Int)) < 0 := by omega
  go_wp2_with (first
    | (refine Go.BigFrame.wpList_want (by first | rfl | simp [Region.wanted, yielded]) (fun _ hK => wp_load_row 31 _ rfl bG rfl 31 _ (0, 0) _ D8.out.box Tryd.underlying31 rfl (by kernel_rfl) (hK _ _ ?_)); go_frame)
    | (refine Go.BigFrame.wpList_want (by first | rfl | simp [Region.wanted, yielded]) (fun _ hK => wp_load_row 31 _ rfl bW rfl 31 _ (0, 0) _ C8.out.box Tryd.underlying31 rfl (by kernel_rfl) (hK _ _ ?_)); go_frame)
    | (refine wpList_load_row rfl 31 _ rfl bG rfl 31 _ (0, 0) _ D8.out.box Tryd.underlying31 rfl (by kernel_rfl) ?_)
    | (refine wpList_load_row rfl 31 _ rfl bW rfl 31 _ (0, 0) _ C8.out.box Tryd.underlying31 rfl (by kernel_rfl) ?_))
  refine (eqMsg_same (fun _ => True) (fun _ => True) m'.ps m'.kd m'.c m'.e m'.n m'.sh m'.nu m'.st m'.k m'.ky m'.vl m'.lo m'.hi m'.mo m'.bk m'.cd _ _ _ m'.ys _ _ _ _ D8.out.own.r C8.out.own.r).mono ?_
  rintro r w9 ⟨rfl, hb⟩
  have C9 := hid (C8.out.below hb)
  have D9 := hid (D8.out.below hb)
  have B9 := hid (btR B8.out hb)
  clear hb C8 D8 B8
  go_wp2_with (refine wpList_load_row rfl 31 _ rfl bG rfl 31 _ (0, 0) _ D9.out.box Tryd.underlying31 rfl (by kernel_rfl) ?_)
  refine (markMsg_any _ m'.ps m'.kd m'.c m'.e m'.n m'.sh m'.nu m'.st m'.k m'.ky m'.vl m'.lo m'.hi m'.mo m'.bk m'.cd qa qn qc m'.ys 1 _ D9.out.own hqn (by omega) (by omega)).mono ?_
  rintro r wA ⟨rfl, hmk⟩
  have hbA := below_new (o := .cells #[.int .i64 m'.kd, .int .i64 m'.c, .int .i64 m'.e, .int .i64 m'.n, .int .i64 m'.sh, .int .i64 m'.nu, .int .i64 m'.st, .int .i64 m'.k, .string m'.ky, .string m'.vl, .string m'.lo, .string m'.hi, .int .i64 m'.mo, .bool m'.bk, .int .i64 m'.cd, .slice qa qn qc, .bool m'.ys] 31) (w := w9) (Below.refl _ _)
  have hoA := hmk.1.only
  have LA := hid hmk.lies
  have hown : ∀ y, (Value.slice qa qn qc).ownBlock = some y → BG ≤ y ∧ y < bG := fun y hy => ⟨(D9.out.own.lt hy).1, D9.out.sep y hy⟩
  have CA := hid ((C9.out.below hbA).to hoA (fun e => by have := hown _ e; omega) (fun y hy e => by have := hown _ e; have := C9.out.sep y hy; omega))
  have KA := hid ((D9.out.box.below hbA).to hoA (fun e => by have := hown _ e; omega))
  have BA : Hid (Below w.heap.size w wA) := (btR B9.out hbA).trans (hoA.below (btR B9.out hbA).size (fun y hy e => by have := hown _ e; omega))
  clear hmk hbA hoA hown C9 D9 B9
  have hk2 : ¬ ((1 + qn * 2 : Nat) : Int) < 0 := by omega
  have hk3 : ((((1 + qn * 2 : Nat) : Int)) != ((1 + qn * 2 : Nat) : Int)) = false := by simp
  have HH := hid (fun v (h : Lies v qa qn (qn * 2) (mV 1)) => heldMsg_any m'.kd m'.c m'.e m'.n m'.sh m'.nu m'.st m'.k m'.ky m'.vl m'.lo m'.hi m'.mo m'.bk m'.cd qa qn qc m'.ys 1 v h hqc hqn (by omega) (by omega))
  generalize 1 + qn * 2 = kk at *
  go_wp2_with (refine wpList_load_row rfl 31 _ rfl bG rfl 31 _ (0, 0) _ KA.out Tryd.underlying31 rfl (by kernel_rfl) ?_)
  refine (HH.out _ LA.out).mono ?_
  rintro r wB ⟨rfl, hb⟩
  have CB := hid (CA.out.below hb)
  have KB := hid (KA.out.below hb)
  have BB := hid (btR BA.out hb)
  have LB := hid (LA.out.below hb)
  clear hb CA KA BA LA
  go_wp2_with fail
  refine (toByteS_any a n c zs _ (H0.out.kept BB.out)).mono ?_
  rintro r wC ⟨rfl, hwC⟩
  have RC : Hid (Rd wC (some ⟨wB.heap.size, 0, none⟩) n n zs) := by rw [hwC]; exact rd_cp wB H0.out
  have bC : Below wB.heap.size wB wC := by rw [hwC]; exact below_new (Below.refl _ _)
  clear hwC
  go_wp2_with fail
  refine (implMsgRead_any _ n n zs wC RC.out).mono ?_
  intro r wD hp
  obtain ⟨m'', ra, rn, rc, b'', rfl, hO, hb, hout⟩ := hp.see
  obtain ⟨rfl, rfl⟩ := HOUT.out.uniq hout
  have hbN := below_new (o := .cells #[.int .i64 m''.kd, .int .i64 m''.c, .int .i64 m''.e, .int .i64 m''.n, .int .i64 m''.sh, .int .i64 m''.nu, .int .i64 m''.st, .int .i64 m''.k, .string m''.ky, .string m''.vl, .string m''.lo, .string m''.hi, .int .i64 m''.mo, .bool m''.bk, .int .i64 m''.cd, .slice ra rn rc, .bool m''.ys] 31) (w := wD) (Below.refl _ _)
  have bE := btR bC (btR hb hbN)
  have DE := hid (MB9.new (kd := m''.kd) (c := m''.c) (e := m''.e) (n := m''.n) (sh := m''.sh) (nu := m''.nu) (st := m''.st) (k := m''.k) (ky := m''.ky) (vl := m''.vl) (lo := m''.lo) (hi := m''.hi) (mo := m''.mo) (bk := m''.bk) (cd := m''.cd) (ys := m''.ys) hO)
  have CE := hid (CB.out.below bE)
  have KE := hid (KB.out.below bE)
  have BE := hid (btR BB.out bE)
  have LE := hid (LB.out.below bE)
  clear hp hout hO hb hbN bE bC RC CB KB BB LB
  go_wp2_with (first
    | (refine wpList_store_row rfl 31 _ _ rfl wD.heap.size _ rfl rfl 31 _ (heap_alloc_new wD _) (by kernel_rfl) rfl (by kernel_rfl) ?_; rw [World.setRow_alloc_new])
    | (refine wpList_load_row rfl 31 _ rfl wD.heap.size rfl 31 _ (0, 0) _ DE.out.box Tryd.underlying31 rfl (by kernel_rfl) ?_)
    | (refine wpList_load_row rfl 31 _ rfl bW rfl 31 _ (0, 0) _ CE.out.box Tryd.underlying31 rfl (by kernel_rfl) ?_))
  refine (eqMsg_same (fun _ => True) (fun _ => True) m''.ps m''.kd m''.c m''.e m''.n m''.sh m''.nu m''.st m''.k m''.ky m''.vl m''.lo m''.hi m''.mo m''.bk m''.cd _ _ _ m''.ys _ _ _ _ DE.out.own.r CE.out.own.r).mono ?_
  generalize wD.alloc (.cells #[.int .i64 m''.kd, .int .i64 m''.c, .int .i64 m''.e, .int .i64 m''.n, .int .i64 m''.sh, .int .i64 m''.nu, .int .i64 m''.st, .int .i64 m''.k, .string m''.ky, .string m''.vl, .string m''.lo, .string m''.hi, .int .i64 m''.mo, .bool m''.bk, .int .i64 m''.cd, .slice ra rn rc, .bool m''.ys] 31) = VD at *
  rintro r wF ⟨rfl, hb⟩
  have KF := hid (KE.out.below hb)
  have BF := hid (btR BE.out hb)
  have LF := hid (LE.out.below hb)
  clear hb CE KE BE LE DE
  go_wp2_with (refine wpList_load_row rfl 31 _ rfl bG rfl 31 _ (0, 0) _ KF.out Tryd.underlying31 rfl (by kernel_rfl) ?_)
  refine (HH.out _ LF.out).mono ?_
  rintro r wG ⟨rfl, hb⟩
  have BG9 := hid (btR BF.out hb)
  clear hb BF KF LF
  go_wp2
  go_ret
  exact ⟨rfl, BG9.out⟩
theorem lawMsgRead_door (a : Option Addr) (n c : Nat) (z0 : List Int) (w : World) (w0 : IsRow .u8 w a n c z0) (_e1 : Err w 1) (_e2 : Err w 0) (_l1 : 1 < w.heap.size) (_l2 : 0 < w.heap.size) :
    Calls Tryd.prog 5 #[.slice a n c] w fun e w' => e = .returned (.bool true) ∧ Below w.heap.size w w' := by
  by_cases hbig : 1048576 < n
  · have hb' : (1048576 : Int) < (n : Int) := by omega
    clear w0 _e1 _e2 _l1 _l2
    go_enter Tryd.func5, Tryd.ntmps5
    go_wp2
    go_ret
    exact ⟨rfl, Below.refl _ _⟩
  · exact lawMsgRead_road a n c _ w (rd_of_row w0 (by omega)) (by omega)
end Go.Proofs.YtbonkheoeohaiaaDoor
