/-
  The law's helpers that write marks into a page and look whether they are still there.
-/
import Derived.Test.YtpgogpphobafoaaDoorPgL
import Derived.Test.YtpgogpphobafoaaDoorMxS
namespace Go.Proofs.YtpgogpphobafoaaDoor
open Go.RowKit
theorem kw_ownP {w : World} {base : Nat} {e : TypeId} {size : Nat} {v : Value} {n : Nat} {xs : List Value} {K : Value → Prop} (h : w.ownsRow base e size v n xs) (hx : ∀ u ∈ xs, K u) : Kw w (fun y => v.ownBlock = some y) v n xs.length K :=
  kw_of (rw_own h (S := fun y => v.ownBlock = some y) (fun k hk _ _ => hk)) hx (fun b hb _ => ⟨hb, by
    rcases h.2 with ⟨rfl, _⟩ | ⟨g, cap, cur, rfl, _, h4, _⟩
    · cases hb
    · have e : g = b := by simpa [Value.ownBlock] using hb
      subst e
      exact ⟨_, _, h4⟩⟩)
theorem Lies.to {w w' : World} {R : Nat → Prop} {a : Option Addr} {n m c : Nat} {V : Nat → Value} (h : Lies w a n m V) (ho : Only R w w') (hR : ∀ y, (Value.slice a n c).ownBlock = some y → ¬ R y) : Lies w' a n m V := by
  intro hn
  obtain ⟨b, off, rfl, h4, h5⟩ := h hn
  exact ⟨b, off, rfl, Nat.lt_of_lt_of_le h4 ho.size, fun j hj => (World.cell?_of_block (w := w) (a := ⟨b, off + j, none⟩) (ho.block b h4 (hR b rfl))).trans (h5 j hj)⟩
theorem Mk.sliceU {S : Nat → Prop} {w w' : World} (hm : Mk S w w') {b o n c : Nat} {a : Option Addr} (hu : Uf w b) (hc : w.cell? ⟨b, o, none⟩ = some (.slice a n c)) : w'.cell? ⟨b, o, none⟩ = some (.slice a n c) := by
  obtain ⟨u, d, e⟩ := hm.cell hu hc
  rw [d, kind_slice _ ⟨a, n, c, rfl⟩ _ _ rfl e]
/-- A page whose rows are its own and apart. -/
structure PO (w : World) (kv vv iv : Value) (p : PG) : Prop where
  hk : w.ownsRow 0 9 1 kv p.keys.length (p.keys.map Value.string)
  hv : w.ownsRow 0 9 1 vv p.vals.length (p.vals.map Value.string)
  hi : w.ownsRow 0 3 1 iv p.kids.length (p.kids.map (Value.int .i64))
  ap : ∀ y, (kv.ownBlock = some y → vv.ownBlock ≠ some y ∧ iv.ownBlock ≠ some y) ∧ (vv.ownBlock = some y → iv.ownBlock ≠ some y)
def pbl (kv vv iv : Value) (y : Nat) : Prop := kv.ownBlock = some y ∨ vv.ownBlock = some y ∨ iv.ownBlock = some y
theorem PO.to {w w' : World} {R : Nat → Prop} {kv vv iv : Value} {p : PG} (h : PO w kv vv iv p) (ho : Only R w w') (hR : ∀ y, pbl kv vv iv y → ¬ R y) : PO w' kv vv iv p :=
  ⟨own_kept h.hk ho (fun k e => hR k (.inl e)), own_kept h.hv ho (fun k e => hR k (.inr (.inl e))), own_kept h.hi ho (fun k e => hR k (.inr (.inr e))), h.ap⟩
theorem PO.below {w w' : World} {kv vv iv : Value} {p : PG} (h : PO w kv vv iv p) (hb : Below w.heap.size w w') : PO w' kv vv iv p := h.to (only_of_below hb (fun _ => False)) (fun _ _ h => h)
theorem PO.pgr {w : World} {ka va ia : Option Addr} {kn kc vn vc jn ic : Nat} {p : PG} (h : PO w (.slice ka kn kc) (.slice va vn vc) (.slice ia jn ic) p) {S : Nat → Prop} (hS : ∀ y, pbl (.slice ka kn kc) (.slice va vn vc) (.slice ia jn ic) y → S y) : Pgr w S ka kn kc va vn vc ia jn ic p :=
  ⟨rw_own h.hk (fun k e _ _ => hS k (.inl e)), rw_own h.hv (fun k e _ _ => hS k (.inr (.inl e))), rw_own h.hi (fun k e _ _ => hS k (.inr (.inr e)))⟩
/-- The marks from k on stand in the page's rows. -/
structure PLie (w : World) (ka : Option Addr) (kn kc : Nat) (va : Option Addr) (vn vc : Nat) (ia : Option Addr) (jn ic : Nat) (k : Nat) : Prop where
  hk : Lies w ka kn kn (mV k)
  hv : Lies w va vn vn (mV (k + kn))
  hi : Lies w ia jn jn (mI (k + kn + vn))
  cap : kn ≤ kc ∧ vn ≤ vc ∧ jn ≤ ic
theorem PLie.below {w w' : World} {ka : Option Addr} {kn kc : Nat} {va : Option Addr} {vn vc : Nat} {ia : Option Addr} {jn ic k : Nat} (h : PLie w ka kn kc va vn vc ia jn ic k) (hb : Below w.heap.size w w') : PLie w' ka kn kc va vn vc ia jn ic k := ⟨h.hk.below hb, h.hv.below hb, h.hi.below hb, h.cap⟩
set_option maxHeartbeats 2000000 in
theorem markPage_any (S : Nat → Prop) (ka : Option Addr) (kn kc : Nat) (va : Option Addr) (vn vc : Nat) (ia : Option Addr) (jn ic k : Nat) (w : World) (h0 : Kw w S (.slice ka kn kc) kn kn isStr) (h1 : Kw w S (.slice va vn vc) vn vn isStr) (h2 : Kw w S (.slice ia jn ic) jn jn isInt) (b0 : kn ≤ 1048576) (b1 : vn ≤ 1048576) (b2 : jn ≤ 1048576) (hk0 : 0 < k) (hk : k ≤ 1000000) :
    Calls Tryd.prog 13 #[.agg #[.slice ka kn kc, .slice va vn vc, .slice ia jn ic], .int .i64 k] w fun e w' => e = .returned (.int .i64 ((k + kn + vn + jn : Nat) : Int)) ∧ Mk S w w' := by
  have hb0 := below_new (o := .cells #[.slice ka kn kc, .slice va vn vc, .slice ia jn ic] 30) (w := w) (Below.refl _ _)
  have K0 := hid (Bk.new w 30 [.slice ka kn kc, .slice va vn vc, .slice ia jn ic])
  have HM0 : Hid (Mk S w (w.alloc (.cells #[.slice ka kn kc, .slice va vn vc, .slice ia jn ic] 30))) := mk_below hb0
  have H0 := hid (h0.mk HM0.out kind_str)
  have H1 := hid (h1.mk HM0.out kind_str)
  have H2 := hid (h2.mk HM0.out kind_int)
  have HU : Hid (Uf (w.alloc (.cells #[.slice ka kn kc, .slice va vn vc, .slice ia jn ic] 30)) w.heap.size) := K0.out.uf
  have C1 := hid (K0.out.cell (j := 1) rfl)
  have C2 := hid (K0.out.cell (j := 2) rfl)
  clear hb0 h0 h1 h2
  have c0 := K0.out.cell (j := 0) rfl
  clear K0
  go_enter Tryd.func13, Tryd.ntmps13
  go_wp2_with fail
  refine (markStringS_any S ka kn kc k _ H0.out b0 hk0 (by omega)).mono ?_
  generalize w.alloc (.cells #[.slice ka kn kc, .slice va vn vc, .slice ia jn ic] 30) = U at *
  rintro e w1 ⟨rfl, hm1⟩
  have M1 := hid hm1.1
  have c1 := M1.out.sliceU HU.out C1.out
  clear hm1 c0
  generalize hq1 : k + kn = q1 at *
  have hq1b : q1 ≤ 3000000 := by omega
  have hq10 : 0 < q1 := by omega
  have HQ1 := hid hq1
  clear hq1
  go_wp2_with fail
  refine (markStringS_any S va vn vc q1 _ (H1.out.mk M1.out kind_str) b1 hq10 (by omega)).mono ?_
  rintro e w2 ⟨rfl, hm2⟩
  have M2 := hid (M1.out.trans hm2.1)
  have c2 := M2.out.sliceU HU.out C2.out
  clear hm2 c1
  generalize hq2 : q1 + vn = q2 at *
  have hq2b : q2 ≤ 5000000 := by omega
  have hq20 : 0 < q2 := by omega
  have HQ2 := hid hq2
  clear hq2
  go_wp2_with fail
  refine (markIntS_any S ia jn ic q2 _ (H2.out.mk M2.out kind_int) b2 hq20 (by omega)).mono ?_
  rintro e w3 ⟨rfl, hm3⟩
  have M3 := hid (HM0.out.trans (M2.out.trans hm3.1))
  clear hm3 c2
  go_wp2
  go_ret
  exact ⟨by rw [HQ1.out, HQ2.out]; rfl, M3.out⟩
set_option maxHeartbeats 2000000 in
theorem markPage_ex (ka : Option Addr) (kn kc : Nat) (va : Option Addr) (vn vc : Nat) (ia : Option Addr) (jn ic k : Nat) (p : PG) (w : World) (h : PO w (.slice ka kn kc) (.slice va vn vc) (.slice ia jn ic) p) (b0 : kn ≤ 1048576) (b1 : vn ≤ 1048576) (b2 : jn ≤ 1048576) (hk0 : 0 < k) (hk : k ≤ 1000000) :
    Calls Tryd.prog 13 #[.agg #[.slice ka kn kc, .slice va vn vc, .slice ia jn ic], .int .i64 k] w fun e w' => e = .returned (.int .i64 ((k + kn + vn + jn : Nat) : Int)) ∧ PLie w' ka kn kc va vn vc ia jn ic k ∧ Only (pbl (.slice ka kn kc) (.slice va vn vc) (.slice ia jn ic)) w w' := by
  have hb0 := below_new (o := .cells #[.slice ka kn kc, .slice va vn vc, .slice ia jn ic] 30) (w := w) (Below.refl _ _)
  have K0 := hid (Bk.new w 30 [.slice ka kn kc, .slice va vn vc, .slice ia jn ic])
  have P0 := hid (h.below hb0)
  have HN0 := hid (Rw.len (h.pgr (S := fun _ => True) (fun _ _ => trivial)).hk)
  have HN1 := hid (Rw.len (h.pgr (S := fun _ => True) (fun _ _ => trivial)).hv)
  have HN2 := hid (Rw.len (h.pgr (S := fun _ => True) (fun _ _ => trivial)).hi)
  have HNB : Hid (∀ y, pbl (.slice ka kn kc) (.slice va vn vc) (.slice ia jn ic) y → y ≠ w.heap.size) := by
    rintro y (e | e | e)
    · have := (World.ownsRow.lt h.hk y e).2; omega
    · have := (World.ownsRow.lt h.hv y e).2; omega
    · have := (World.ownsRow.lt h.hi y e).2; omega
  have HO0 : Hid (Only (pbl (.slice ka kn kc) (.slice va vn vc) (.slice ia jn ic)) w (w.alloc (.cells #[.slice ka kn kc, .slice va vn vc, .slice ia jn ic] 30))) := only_of_below hb0 _
  have KK : Hid (∀ v, PO v (.slice ka kn kc) (.slice va vn vc) (.slice ia jn ic) p → Kw v (fun y => (Value.slice ka kn kc).ownBlock = some y) (.slice ka kn kc) kn kn isStr) := by
    intro v hv
    have := kw_ownP (K := isStr) hv.hk (fun u hu => by simp at hu; obtain ⟨s, _, rfl⟩ := hu; exact ⟨s, rfl⟩)
    rw [List.length_map, ← HN0.out.1] at this
    exact this
  have KV : Hid (∀ v, v.ownsRow 0 9 1 (.slice va vn vc) p.vals.length (p.vals.map Value.string) → Kw v (fun y => (Value.slice va vn vc).ownBlock = some y) (.slice va vn vc) vn vn isStr) := by
    intro v hv
    have := kw_ownP (K := isStr) hv (fun u hu => by simp at hu; obtain ⟨s, _, rfl⟩ := hu; exact ⟨s, rfl⟩)
    rw [List.length_map, ← HN1.out.1] at this
    exact this
  have KI : Hid (∀ v, v.ownsRow 0 3 1 (.slice ia jn ic) p.kids.length (p.kids.map (Value.int .i64)) → Kw v (fun y => (Value.slice ia jn ic).ownBlock = some y) (.slice ia jn ic) jn jn isInt) := by
    intro v hv
    have := kw_ownP (K := isInt) hv (fun u hu => by simp at hu; obtain ⟨s, _, rfl⟩ := hu; exact ⟨s, rfl⟩)
    rw [List.length_map, ← HN2.out.1] at this
    exact this
  clear hb0 h
  have c0 := K0.out.cell (j := 0) rfl
  go_enter Tryd.func13, Tryd.ntmps13
  go_wp2_with fail
  refine (markStringS_any _ ka kn kc k _ (KK.out _ P0.out) b0 hk0 (by omega)).mono ?_
  generalize w.alloc (.cells #[.slice ka kn kc, .slice va vn vc, .slice ia jn ic] 30) = U at *
  rintro e w1 ⟨rfl, hm1⟩
  have L1 := hid hm1.lies
  have O1 := hid hm1.1.only
  have K1 := hid (K0.out.to O1.out (fun e => HNB.out _ (.inl e) rfl))
  have V1 := hid (own_kept P0.out.hv O1.out (fun y e e2 => ((P0.out.ap y).1 e2).1 e))
  have I1 := hid (own_kept P0.out.hi O1.out (fun y e e2 => ((P0.out.ap y).1 e2).2 e))
  clear hm1 c0 K0
  have c1 := K1.out.cell (j := 1) rfl
  generalize hq1 : k + kn = q1 at *
  have hq1b : q1 ≤ 3000000 := by omega
  have hq10 : 0 < q1 := by omega
  have HQ1 := hid hq1
  clear hq1
  go_wp2_with fail
  refine (markStringS_any _ va vn vc q1 _ (KV.out _ V1.out) b1 hq10 (by omega)).mono ?_
  rintro e w2 ⟨rfl, hm2⟩
  have L2 := hid hm2.lies
  have O2 := hid hm2.1.only
  have K2 := hid (K1.out.to O2.out (fun e => HNB.out _ (.inr (.inl e)) rfl))
  have I2 := hid (own_kept I1.out O2.out (fun y e e2 => (P0.out.ap y).2 e2 e))
  have LK2 := hid (L1.out.to (c := kc) O2.out (fun y e e2 => ((P0.out.ap y).1 e).1 e2))
  clear hm2 c1 K1
  have c2 := K2.out.cell (j := 2) rfl
  generalize hq2 : q1 + vn = q2 at *
  have hq2b : q2 ≤ 5000000 := by omega
  have hq20 : 0 < q2 := by omega
  have HQ2 := hid hq2
  clear hq2
  go_wp2_with fail
  refine (markIntS_any _ ia jn ic q2 _ (KI.out _ I2.out) b2 hq20 (by omega)).mono ?_
  rintro e w3 ⟨rfl, hm3⟩
  have L3 := hid hm3.lies
  have O3 := hid hm3.1.only
  have LK3 := hid (LK2.out.to (c := kc) O3.out (fun y e e2 => ((P0.out.ap y).1 e).2 e2))
  have LV3 := hid (L2.out.to (c := vc) O3.out (fun y e e2 => (P0.out.ap y).2 e e2))
  clear hm3 c2
  go_wp2
  go_ret
  refine ⟨by rw [HQ1.out, HQ2.out]; rfl, ⟨LK3.out, by rw [HQ1.out]; exact LV3.out, by rw [HQ1.out, HQ2.out]; exact L3.out, HN0.out.2.1, HN1.out.2.1, HN2.out.2.1⟩, ?_⟩
  exact HO0.out.trans (((O1.out.mono (fun y _ e => .inl e)).trans (O2.out.mono (fun y _ e => .inr (.inl e)))).trans (O3.out.mono (fun y _ e => .inr (.inr e))))
set_option maxHeartbeats 2000000 in
theorem heldPage_any (ka : Option Addr) (kn kc : Nat) (va : Option Addr) (vn vc : Nat) (ia : Option Addr) (jn ic k : Nat) (w : World) (h : PLie w ka kn kc va vn vc ia jn ic k) (b0 : kn ≤ 1048576) (b1 : vn ≤ 1048576) (b2 : jn ≤ 1048576) (hk0 : 0 < k) (hk : k ≤ 1000000) :
    Calls Tryd.prog 19 #[.agg #[.slice ka kn kc, .slice va vn vc, .slice ia jn ic], .int .i64 k] w fun e w' => e = .returned (.int .i64 ((k + kn + vn + jn : Nat) : Int)) ∧ Below w.heap.size w w' := by
  have hb0 := below_new (o := .cells #[.slice ka kn kc, .slice va vn vc, .slice ia jn ic] 30) (w := w) (Below.refl _ _)
  have K0 := hid (Bk.new w 30 [.slice ka kn kc, .slice va vn vc, .slice ia jn ic])
  have P0 := hid (h.below hb0)
  have B0 := hid hb0
  have hc := h.cap
  clear hb0 h
  have c0 := K0.out.cell (j := 0) rfl
  go_enter Tryd.func19, Tryd.ntmps19
  go_wp2_with fail
  refine (heldStringS_any ka kn kc k _ P0.out.hk (by omega) b0 hk0 (by omega)).mono ?_
  generalize w.alloc (.cells #[.slice ka kn kc, .slice va vn vc, .slice ia jn ic] 30) = U at *
  rintro e w1 ⟨rfl, hb1⟩
  have P1 := hid (P0.out.below hb1)
  have K1 := hid (K0.out.below hb1)
  have B1 := hid (B0.out.trans (hb1.mono B0.out.size))
  clear hb1 c0 K0 P0 B0
  have c1 := K1.out.cell (j := 1) rfl
  have HV := hid P1.out.hv
  have HI := hid P1.out.hi
  generalize hq1 : k + kn = q1 at *
  have hq1b : q1 ≤ 3000000 := by omega
  have hq10 : 0 < q1 := by omega
  have HQ1 := hid hq1
  clear hq1 P1
  go_wp2_with fail
  refine (heldStringS_any va vn vc q1 _ HV.out (by omega) b1 hq10 (by omega)).mono ?_
  rintro e w2 ⟨rfl, hb2⟩
  have K2 := hid (K1.out.below hb2)
  have B2 := hid (B1.out.trans (hb2.mono B1.out.size))
  have HI2 := hid (HI.out.below hb2)
  clear hb2 c1 K1 B1 HV HI
  have c2 := K2.out.cell (j := 2) rfl
  generalize hq2 : q1 + vn = q2 at *
  have hq2b : q2 ≤ 5000000 := by omega
  have hq20 : 0 < q2 := by omega
  have HQ2 := hid hq2
  clear hq2
  go_wp2_with fail
  refine (heldIntS_any ia jn ic q2 _ HI2.out (by omega) b2 hq20 (by omega)).mono ?_
  rintro e w3 ⟨rfl, hw3⟩
  subst hw3
  clear c2
  go_wp2
  go_ret
  exact ⟨by rw [HQ1.out, HQ2.out]; rfl, B2.out⟩
end Go.Proofs.YtpgogpphobafoaaDoor

