/-
  The words of calls and of steps, and StepText, of the program.
-/
import Derived.Test.YtjddkofpfmjojaaDoorMa2
import Derived.Test.YtjddkofpfmjojaaDoorMa1
import Derived.Deep.RegionHeld3
import Derived.Deep.Strs
import Derived.Deep.Slices
import Derived.ChangeSlices
import Derived.WideShapes
import Derived.ChangeSame
import Derived.ProofKit
import Derived.OpenShut
namespace Go.Proofs.YtjddkofpfmjojaaDoor
open Go.RowKit
set_option linter.unusedVariables false
theorem clW_len (kd ak : Int) (ky vl lo hi : ByteArray) (mo : Int) (bk : Bool) : (clW kd ak ky vl lo hi mo bk).length ≤ 4 := by
  unfold clW akW
  split <;> (try split) <;> (try split) <;> (try split) <;> simp
set_option maxHeartbeats 4000000 in
theorem callWords_any (kd ak : Int) (ky vl lo hi : ByteArray) (mo : Int) (bk : Bool) (w : World) (hs : ky.size ≤ 1048576 ∧ vl.size ≤ 1048576 ∧ lo.size ≤ 1048576 ∧ hi.size ≤ 1048576) (hw : GW w) :
    Calls Tryd.prog 47 #[.agg #[.int .i64 kd, .int .i64 ak, .string ky, .string vl, .string lo, .string hi, .int .i64 mo, .bool bk]] w fun e w' => WsP (clW kd ak ky vl lo hi mo bk) w e w' := by
  unfold WsP clW
  have B0 := hid (below_new (o := .cells #[.int .i64 kd, .int .i64 ak, .string ky, .string vl, .string lo, .string hi, .int .i64 mo, .bool bk] 37) (w := w) (Below.refl _ _))
  have K0 := hid (Bk.new w 37 [.int .i64 kd, .int .i64 ak, .string ky, .string vl, .string lo, .string hi, .int .i64 mo, .bool bk])
  have G0 := hid (hw.to B0.out)
  have CA := hid (fun w hw => askWords_any ak ky vl lo hi mo bk w hs hw)
  have CW := hid (fun w => callWord_any kd w)
  clear hs hw
  generalize hU : w.alloc (.cells #[.int .i64 kd, .int .i64 ak, .string ky, .string vl, .string lo, .string hi, .int .i64 mo, .bool bk] 37) = U at *
  have HU := hid hU
  clear hU
  have c0 := K0.out.cell (j := 0) rfl
  by_cases h2 : kd = 2
  · subst h2
    rw [if_pos rfl]
    have c1 := K0.out.cell (j := 1) rfl
    have c2 := K0.out.cell (j := 2) rfl
    have c3 := K0.out.cell (j := 3) rfl
    have c4 := K0.out.cell (j := 4) rfl
    have c5 := K0.out.cell (j := 5) rfl
    have c6 := K0.out.cell (j := 6) rfl
    have c7 := K0.out.cell (j := 7) rfl
    go_enter Tryd.func47, Tryd.ntmps47
    go_wp2_with fail
    rw [HU.out]
    go_wp2_with fail
    refine (CA.out _ G0.out).mono ?_
    rintro r v1 ⟨xa, xn, xc, rfl, hO, hb⟩
    have O1 := hid (hO.lower B0.out.size)
    have B1 := hid (B0.out.trans (hb.mono B0.out.size))
    clear hO hb c0 c1 c2 c3 c4 c5 c6 c7 B0 K0 G0
    go_wp2
    go_ret
    exact ⟨_, _, _, rfl, O1.out, B1.out⟩
  · rw [if_neg h2]
    go_enter Tryd.func47, Tryd.ntmps47
    go_wp2_with fail
    rw [HU.out]
    go_wp2_with fail
    refine (CW.out _).mono ?_
    rintro r v1 ⟨rfl, rfl⟩
    have O1 := hid (OW.one (B := w.heap.size) (Bk.new _ 9 [.string (cwd kd)]) B0.out.size)
    have B1 := hid (B0.out.alloc B0.out.size (.cells #[.string (cwd kd)] 9))
    clear c0 B0 K0 G0
    go_wp2
    go_ret
    exact ⟨_, _, _, rfl, O1.out, B1.out⟩
set_option maxHeartbeats 4000000 in
theorem wordsOfStep_any (S : Nat → Prop) (k a b : Int) (ka : Option Addr) (kn kc : Nat) (kp : List Int) (kd ak : Int) (ky vl lo hi : ByteArray) (mo : Int) (bk : Bool) (w : World) (hp : Ir w S (.slice ka kn kc) kp) (hn : kn ≤ 1048576) (hs : k = 1 → ky.size ≤ 1048576 ∧ vl.size ≤ 1048576 ∧ lo.size ≤ 1048576 ∧ hi.size ≤ 1048576) (hw : GW w) :
    Calls Tryd.prog 24 #[.agg #[.int .i64 k, .int .i64 a, .int .i64 b, .slice ka kn kc, .int .i64 kd, .int .i64 ak, .string ky, .string vl, .string lo, .string hi, .int .i64 mo, .bool bk]] w fun e w' => WsP (stW ⟨k, a, b, kp, kd, ak, ky, vl, lo, hi, mo, bk⟩) w e w' := by
  unfold WsP stW
  dsimp only
  have K0 := hid (Bk.new w 39 [.int .i64 k, .int .i64 a, .int .i64 b, .slice ka kn kc, .int .i64 kd, .int .i64 ak, .string ky, .string vl, .string lo, .string hi, .int .i64 mo, .bool bk])
  have HUS : Hid (w.heap.size ≤ (w.alloc (.cells #[.int .i64 k, .int .i64 a, .int .i64 b, .slice ka kn kc, .int .i64 kd, .int .i64 ak, .string ky, .string vl, .string lo, .string hi, .int .i64 mo, .bool bk] 39)).heap.size) := by show _ ≤ _; simp
  have G0 := hid (hw.to ((Below.refl w.heap.size w).alloc (Nat.le_refl _) (.cells #[.int .i64 k, .int .i64 a, .int .i64 b, .slice ka kn kc, .int .i64 kd, .int .i64 ak, .string ky, .string vl, .string lo, .string hi, .int .i64 mo, .bool bk] 39)))
  have H0 := hid (hp.below ((Below.refl w.heap.size w).alloc (Nat.le_refl _) (.cells #[.int .i64 k, .int .i64 a, .int .i64 b, .slice ka kn kc, .int .i64 kd, .int .i64 ak, .string ky, .string vl, .string lo, .string hi, .int .i64 mo, .bool bk] 39)))
  have HL : Hid (kp.length ≤ 1048576) := by have := (Rw.len hp).1; show _ ≤ _; omega
  have CS := hid (fun k w => stepWord_any k w)
  have CN := hid (fun (n : Int) (w : World) (hw : GW w) => implNumText_any n w hw.tab)
  have CC := hid (fun w (hk : k = 1) hw => callWords_any kd ak ky vl lo hi mo bk w (hs hk) hw)
  have CW := hid (fun w h (hw : GW w) => wordsOfInt_any S ka kn kc kp w h hn hw.tab hw.g)
  clear hs hw hp
  generalize hU : w.alloc (.cells #[.int .i64 k, .int .i64 a, .int .i64 b, .slice ka kn kc, .int .i64 kd, .int .i64 ak, .string ky, .string vl, .string lo, .string hi, .int .i64 mo, .bool bk] 39) = U at *
  have HU := hid hU
  clear hU
  by_cases h5 : k = 5
  · subst h5
    rw [if_pos rfl, if_neg (show ¬ (5 : Int) = 1 by decide), if_neg (show ¬ (5 : Int) = 7 by decide)]
    try rw [List.append_nil]
    go_enter Tryd.func24, Tryd.ntmps24
    go_wp2_with fail
    rw [HU.out]
    have c0 := K0.out.cell (j := 0) rfl
    go_wp2_with fail
    refine (CS.out _ _).mono ?_
    rintro r v1 ⟨rfl, hb⟩
    clear c0
    have Bv1 := hid hb
    clear hb
    have Ba1 := hid (Bv1.out.alloc Bv1.out.size (.cells #[.string (sw 5)] 9))
    have Na1 := hid (OW.one (Bk.new v1 9 [.string (sw 5)]) Bv1.out.size)
    have Oa1 := hid Na1.out
    clear Na1
    have c0 := (K0.out.below Ba1.out).cell (j := 0) rfl
    go_wp2_with fail
    clear c0
    go_ret
    exact ⟨_, _, _, rfl, by have := Oa1.out.lower HUS.out; exact this, by have := Ba1.out; rw [← HU.out] at this; exact below_new this⟩
  by_cases h1 : k = 1
  · subst h1
    rw [if_neg h5, if_pos rfl]
    go_enter Tryd.func24, Tryd.ntmps24
    go_wp2_with fail
    rw [HU.out]
    have c0 := K0.out.cell (j := 0) rfl
    go_wp2_with fail
    refine (CS.out _ _).mono ?_
    rintro r v1 ⟨rfl, hb⟩
    clear c0
    have Bv1 := hid hb
    clear hb
    have Ba1 := hid (Bv1.out.alloc Bv1.out.size (.cells #[.string (sw 1)] 9))
    have Na1 := hid (OW.one (Bk.new v1 9 [.string (sw 1)]) Bv1.out.size)
    have Oa1 := hid Na1.out
    clear Na1
    have c0 := (K0.out.below Ba1.out).cell (j := 0) rfl
    have c1 := (K0.out.below Ba1.out).cell (j := 1) rfl
    go_wp2_with fail
    generalize v1.alloc (.cells #[.string (sw 1)] 9) = a1 at *
    generalize v1.heap.size = h1 at *
    refine (CN.out a _ (G0.out.to Ba1.out)).mono ?_
    rintro r v2 ⟨rfl, hb⟩
    clear c0 c1
    have Bv2 := hid (Ba1.out.trans (hb.mono Ba1.out.size))
    have Ov2 := hid (Oa1.out.below hb)
    clear hb
    have Ba2 := hid (Bv2.out.alloc Bv2.out.size (.cells #[.string (numS a)] 9))
    have Oa2 := hid (Ov2.out.below ((Below.refl v2.heap.size v2).alloc (Nat.le_refl _) (.cells #[.string (numS a)] 9)))
    have Na2 := hid (OW.one (Bk.new v2 9 [.string (numS a)]) Bv2.out.size)
    have hl : ([(sw 1)] : List ByteArray).length + [numS a].length ≤ 4194304 := by simp
    go_wp2_with (at_builtin; refine wpList_append_ws rfl _ _ rfl U.heap.size _ _ _ rfl Oa2.out _ _ rfl Na2.out hl Ba2.out.size ?_)
    intro av3 nv3 cv3 v3 hO hg _
    have Bv3 := hid (Ba2.out.trans ((only_of_grown hg (R := fun y => (Value.slice (some ⟨h1, 0, none⟩) 1 1).ownBlock = some y) (fun k q => q)).below Ba2.out.size (fun b hb q => by have := (World.ownsRow.lt Oa2.out b q).1; omega)))
    have Ov3 := hid hO
    clear hO hg hl Oa2
    have c0 := (K0.out.below Bv3.out).cell (j := 0) rfl
    have c4 := (K0.out.below Bv3.out).cell (j := 4) rfl
    have c5 := (K0.out.below Bv3.out).cell (j := 5) rfl
    have c6 := (K0.out.below Bv3.out).cell (j := 6) rfl
    have c7 := (K0.out.below Bv3.out).cell (j := 7) rfl
    have c8 := (K0.out.below Bv3.out).cell (j := 8) rfl
    have c9 := (K0.out.below Bv3.out).cell (j := 9) rfl
    have c10 := (K0.out.below Bv3.out).cell (j := 10) rfl
    have c11 := (K0.out.below Bv3.out).cell (j := 11) rfl
    go_wp2_with fail
    refine (CC.out _ (by first | trivial | rfl) (G0.out.to Bv3.out)).mono ?_
    rintro r v4 ⟨xa, xn, xc, rfl, hO1, hb⟩
    clear c0 c4 c5 c6 c7 c8 c9 c10 c11
    have Bv4 := hid (Bv3.out.trans (hb.mono Bv3.out.size))
    have Ov4 := hid (Ov3.out.below hb)
    clear hb
    have Nv4 := hid hO1
    clear hO1
    have hl : ([sw 1] ++ [numS a] : List ByteArray).length + (clW kd ak ky vl lo hi mo bk).length ≤ 4194304 := by have := clW_len kd ak ky vl lo hi mo bk; simp; omega
    go_wp2_with (at_builtin; refine wpList_append_ws rfl _ _ rfl U.heap.size _ _ _ rfl Ov4.out _ _ rfl Nv4.out hl Bv4.out.size ?_)
    intro av5 nv5 cv5 v5 hO hg _
    have Bv5 := hid (Bv4.out.trans ((only_of_grown hg (R := fun y => (Value.slice av3 nv3 cv3).ownBlock = some y) (fun k q => q)).below Bv4.out.size (fun b hb q => by have := (World.ownsRow.lt Ov4.out b q).1; omega)))
    have Ov5 := hid hO
    clear hO hg hl Ov4
    go_wp2
    go_ret
    exact ⟨_, _, _, rfl, by have := Ov5.out.lower HUS.out; simpa using this, by have := Bv5.out; rw [← HU.out] at this; exact below_new this⟩
  by_cases h7 : k = 7
  · subst h7
    rw [if_neg h5, if_neg h1, if_pos rfl]
    go_enter Tryd.func24, Tryd.ntmps24
    go_wp2_with fail
    rw [HU.out]
    have c0 := K0.out.cell (j := 0) rfl
    go_wp2_with fail
    refine (CS.out _ _).mono ?_
    rintro r v1 ⟨rfl, hb⟩
    clear c0
    have Bv1 := hid hb
    clear hb
    have Ba1 := hid (Bv1.out.alloc Bv1.out.size (.cells #[.string (sw 7)] 9))
    have Na1 := hid (OW.one (Bk.new v1 9 [.string (sw 7)]) Bv1.out.size)
    have Oa1 := hid Na1.out
    clear Na1
    have c0 := (K0.out.below Ba1.out).cell (j := 0) rfl
    have c1 := (K0.out.below Ba1.out).cell (j := 1) rfl
    go_wp2_with fail
    generalize v1.alloc (.cells #[.string (sw 7)] 9) = a1 at *
    generalize v1.heap.size = h1 at *
    refine (CN.out a _ (G0.out.to Ba1.out)).mono ?_
    rintro r v2 ⟨rfl, hb⟩
    clear c0 c1
    have Bv2 := hid (Ba1.out.trans (hb.mono Ba1.out.size))
    have Ov2 := hid (Oa1.out.below hb)
    clear hb
    have Ba2 := hid (Bv2.out.alloc Bv2.out.size (.cells #[.string (numS a)] 9))
    have Oa2 := hid (Ov2.out.below ((Below.refl v2.heap.size v2).alloc (Nat.le_refl _) (.cells #[.string (numS a)] 9)))
    have Na2 := hid (OW.one (Bk.new v2 9 [.string (numS a)]) Bv2.out.size)
    have hl : ([(sw 7)] : List ByteArray).length + [numS a].length ≤ 4194304 := by simp
    go_wp2_with (at_builtin; refine wpList_append_ws rfl _ _ rfl U.heap.size _ _ _ rfl Oa2.out _ _ rfl Na2.out hl Ba2.out.size ?_)
    intro av3 nv3 cv3 v3 hO hg _
    have Bv3 := hid (Ba2.out.trans ((only_of_grown hg (R := fun y => (Value.slice (some ⟨h1, 0, none⟩) 1 1).ownBlock = some y) (fun k q => q)).below Ba2.out.size (fun b hb q => by have := (World.ownsRow.lt Oa2.out b q).1; omega)))
    have Ov3 := hid hO
    clear hO hg hl Oa2
    have c0 := (K0.out.below Bv3.out).cell (j := 0) rfl
    have c2 := (K0.out.below Bv3.out).cell (j := 2) rfl
    go_wp2_with fail
    refine (CN.out b _ (G0.out.to Bv3.out)).mono ?_
    rintro r v4 ⟨rfl, hb⟩
    clear c0 c2
    have Bv4 := hid (Bv3.out.trans (hb.mono Bv3.out.size))
    have Ov4 := hid (Ov3.out.below hb)
    clear hb
    have Ba4 := hid (Bv4.out.alloc Bv4.out.size (.cells #[.string (numS b)] 9))
    have Oa4 := hid (Ov4.out.below ((Below.refl v4.heap.size v4).alloc (Nat.le_refl _) (.cells #[.string (numS b)] 9)))
    have Na4 := hid (OW.one (Bk.new v4 9 [.string (numS b)]) Bv4.out.size)
    have hl : ([sw 7] ++ [numS a] : List ByteArray).length + [numS b].length ≤ 4194304 := by simp
    go_wp2_with (at_builtin; refine wpList_append_ws rfl _ _ rfl U.heap.size _ _ _ rfl Oa4.out _ _ rfl Na4.out hl Ba4.out.size ?_)
    intro av5 nv5 cv5 v5 hO hg _
    have Bv5 := hid (Ba4.out.trans ((only_of_grown hg (R := fun y => (Value.slice av3 nv3 cv3).ownBlock = some y) (fun k q => q)).below Ba4.out.size (fun b hb q => by have := (World.ownsRow.lt Oa4.out b q).1; omega)))
    have Ov5 := hid hO
    clear hO hg hl Oa4
    have c3 := (K0.out.below Bv5.out).cell (j := 3) rfl
    go_wp2_with fail
    refine (CW.out _ (H0.out.below Bv5.out) (G0.out.to Bv5.out)).mono ?_
    rintro r v6 ⟨xa, xn, xc, rfl, hO1, hb⟩
    clear c3
    have Bv6 := hid (Bv5.out.trans (hb.mono Bv5.out.size))
    have Ov6 := hid (Ov5.out.below hb)
    clear hb
    have Nv6 := hid hO1
    clear hO1
    have hl : ([sw 7] ++ [numS a] ++ [numS b] : List ByteArray).length + (kp.map numS).length ≤ 4194304 := by have := HL.out; simp; omega
    go_wp2_with (at_builtin; refine wpList_append_ws rfl _ _ rfl U.heap.size _ _ _ rfl Ov6.out _ _ rfl Nv6.out hl Bv6.out.size ?_)
    intro av7 nv7 cv7 v7 hO hg _
    have Bv7 := hid (Bv6.out.trans ((only_of_grown hg (R := fun y => (Value.slice av5 nv5 cv5).ownBlock = some y) (fun k q => q)).below Bv6.out.size (fun b hb q => by have := (World.ownsRow.lt Ov6.out b q).1; omega)))
    have Ov7 := hid hO
    clear hO hg hl Ov6
    go_wp2
    go_ret
    exact ⟨_, _, _, rfl, by have := Ov7.out.lower HUS.out; simpa using this, by have := Bv7.out; rw [← HU.out] at this; exact below_new this⟩
  · rw [if_neg h5, if_neg h1, if_neg h7]
    go_enter Tryd.func24, Tryd.ntmps24
    go_wp2_with fail
    rw [HU.out]
    have c0 := K0.out.cell (j := 0) rfl
    go_wp2_with fail
    refine (CS.out _ _).mono ?_
    rintro r v1 ⟨rfl, hb⟩
    clear c0
    have Bv1 := hid hb
    clear hb
    have Ba1 := hid (Bv1.out.alloc Bv1.out.size (.cells #[.string (sw k)] 9))
    have Na1 := hid (OW.one (Bk.new v1 9 [.string (sw k)]) Bv1.out.size)
    have Oa1 := hid Na1.out
    clear Na1
    have c0 := (K0.out.below Ba1.out).cell (j := 0) rfl
    have c1 := (K0.out.below Ba1.out).cell (j := 1) rfl
    go_wp2_with fail
    generalize v1.alloc (.cells #[.string (sw k)] 9) = a1 at *
    generalize v1.heap.size = h1 at *
    refine (CN.out a _ (G0.out.to Ba1.out)).mono ?_
    rintro r v2 ⟨rfl, hb⟩
    clear c0 c1
    have Bv2 := hid (Ba1.out.trans (hb.mono Ba1.out.size))
    have Ov2 := hid (Oa1.out.below hb)
    clear hb
    have Ba2 := hid (Bv2.out.alloc Bv2.out.size (.cells #[.string (numS a)] 9))
    have Oa2 := hid (Ov2.out.below ((Below.refl v2.heap.size v2).alloc (Nat.le_refl _) (.cells #[.string (numS a)] 9)))
    have Na2 := hid (OW.one (Bk.new v2 9 [.string (numS a)]) Bv2.out.size)
    have hl : ([(sw k)] : List ByteArray).length + [numS a].length ≤ 4194304 := by simp
    go_wp2_with (at_builtin; refine wpList_append_ws rfl _ _ rfl U.heap.size _ _ _ rfl Oa2.out _ _ rfl Na2.out hl Ba2.out.size ?_)
    intro av3 nv3 cv3 v3 hO hg _
    have Bv3 := hid (Ba2.out.trans ((only_of_grown hg (R := fun y => (Value.slice (some ⟨h1, 0, none⟩) 1 1).ownBlock = some y) (fun k q => q)).below Ba2.out.size (fun b hb q => by have := (World.ownsRow.lt Oa2.out b q).1; omega)))
    have Ov3 := hid hO
    clear hO hg hl Oa2
    have c0 := (K0.out.below Bv3.out).cell (j := 0) rfl
    go_wp2_with fail
    clear c0
    go_ret
    exact ⟨_, _, _, rfl, by have := Ov3.out.lower HUS.out; exact this, by have := Bv3.out; rw [← HU.out] at this; exact below_new this⟩
end Go.Proofs.YtjddkofpfmjojaaDoor
/-
  == of calls; isWritten, lineOf and StepText of the program.
-/
namespace Go.Proofs.YtjddkofpfmjojaaDoor
open Go.RowKit
set_option linter.unusedVariables false
theorem eqIn_rngF (n : Nat) (lo hi lo' hi' : ByteArray) (w : World) : (Op.equalIn (n + 2) 33 (.agg #[.string lo, .string hi]) (.agg #[.string lo', .string hi'])).run Tryd.prog w = .ok (lo.toList == lo'.toList && hi.toList == hi'.toList) w := by
  rw [run_equalIn_struct w (n + 1) 33 _ _ (by kernel_rfl) (by kernel_rfl)]
  obtain ⟨f0, f1, hu, n0, n1, t0, t1, o0, o1⟩ : ∃ f0 f1 : Field, Tryd.prog.underlying 33 = some (.struct #[f0, f1]) ∧ f0.name = "Lo" ∧ f1.name = "Hi" ∧ f0.type = 9 ∧ f1.type = 9 ∧ f0.offset = 0 ∧ f1.offset = 1 := ⟨_, _, Tryd.underlying33, rfl, rfl, rfl, rfl, rfl, rfl⟩
  have hl : (Tryd.prog.fieldsOf 33).toList = [f0, f1] := by simp [Program.fieldsOf, hu]
  rw [hl]
  have p0 : ∀ (x y : Value) (w : World), (Go.part 9 #[x, y] 0).run Tryd.prog w = .ok x w := fun x y w => by kernel_rfl
  have p1 : ∀ (x y : Value) (w : World), (Go.part 9 #[x, y] 1).run Tryd.prog w = .ok y w := fun x y w => by kernel_rfl
  have hs : ∀ (a b : ByteArray) (w : World), (Op.equalIn (n + 1) 9 (.string a) (.string b)).run Tryd.prog w = .ok (a.toList == b.toList) w := fun a b w => run_equalIn_string w n 9 a b (by kernel_rfl)
  have q0 : ("Lo" : String) ≠ "_" := by decide
  have q1 : ("Hi" : String) ≠ "_" := by decide
  simp only [Op.eqFields, n0, n1, t0, t1, o0, o1, if_pos q0, if_pos q1, Sem.run_bind, p0, p1, hs, Result.andThen_ok, Sem.run_ite, Sem.run_pure]
  cases h0 : (lo.toList == lo'.toList)
  · simp
  · cases h1 : (hi.toList == hi'.toList) <;> simp
theorem eqIn_askF (n : Nat) (k : Int) (ky vl lo hi : ByteArray) (mo : Int) (bk : Bool) (k' : Int) (ky' : ByteArray) (vl' : ByteArray) (lo' : ByteArray) (hi' : ByteArray) (mo' : Int) (bk' : Bool) (w : World) : (Op.equalIn (n + 3) 35 (.agg #[.int .i64 k, .string ky, .string vl, .string lo, .string hi, .int .i64 mo, .bool bk]) (.agg #[.int .i64 k', .string ky', .string vl', .string lo', .string hi', .int .i64 mo', .bool bk'])).run Tryd.prog w = .ok ((k == k') && (ky.toList == ky'.toList && (vl.toList == vl'.toList && ((lo.toList == lo'.toList && hi.toList == hi'.toList) && (mo == mo' && bk == bk'))))) w := by
  rw [run_equalIn_struct w (n + 2) 35 _ _ (by kernel_rfl) (by kernel_rfl)]
  obtain ⟨f0, f1, f2, f3, f4, f5, hu, n0, n1, n2, n3, n4, n5, t0, t1, t2, t3, t4, t5, o0, o1, o2, o3, o4, o5⟩ : ∃ f0 f1 f2 f3 f4 f5 : Field, Tryd.prog.underlying 35 = some (.struct #[f0, f1, f2, f3, f4, f5]) ∧ f0.name = "Kind" ∧ f1.name = "Key" ∧ f2.name = "Val" ∧ f3.name = "Range" ∧ f4.name = "Most" ∧ f5.name = "Back" ∧ f0.type = 3 ∧ f1.type = 9 ∧ f2.type = 9 ∧ f3.type = 33 ∧ f4.type = 3 ∧ f5.type = 4 ∧ f0.offset = 0 ∧ f1.offset = 1 ∧ f2.offset = 2 ∧ f3.offset = 3 ∧ f4.offset = 5 ∧ f5.offset = 6 := ⟨_, _, _, _, _, _, Tryd.underlying35, rfl, rfl, rfl, rfl, rfl, rfl, rfl, rfl, rfl, rfl, rfl, rfl, rfl, rfl, rfl, rfl, rfl, rfl⟩
  have hl : (Tryd.prog.fieldsOf 35).toList = [f0, f1, f2, f3, f4, f5] := by simp [Program.fieldsOf, hu]
  rw [hl]
  have p0 : ∀ (x0 x1 x2 x3 x4 x5 x6 : Value) (w : World), (Go.part 3 #[x0, x1, x2, x3, x4, x5, x6] 0).run Tryd.prog w = .ok x0 w := fun x0 x1 x2 x3 x4 x5 x6 w => by kernel_rfl
  have p1 : ∀ (x0 x1 x2 x3 x4 x5 x6 : Value) (w : World), (Go.part 9 #[x0, x1, x2, x3, x4, x5, x6] 1).run Tryd.prog w = .ok x1 w := fun x0 x1 x2 x3 x4 x5 x6 w => by kernel_rfl
  have p2 : ∀ (x0 x1 x2 x3 x4 x5 x6 : Value) (w : World), (Go.part 9 #[x0, x1, x2, x3, x4, x5, x6] 2).run Tryd.prog w = .ok x2 w := fun x0 x1 x2 x3 x4 x5 x6 w => by kernel_rfl
  have p3 : ∀ (x0 x1 x2 x3 x4 x5 x6 : Value) (w : World), (Go.part 33 #[x0, x1, x2, x3, x4, x5, x6] 3).run Tryd.prog w = .ok (.agg #[x3, x4]) w := fun x0 x1 x2 x3 x4 x5 x6 w => by kernel_rfl
  have p4 : ∀ (x0 x1 x2 x3 x4 x5 x6 : Value) (w : World), (Go.part 3 #[x0, x1, x2, x3, x4, x5, x6] 5).run Tryd.prog w = .ok x5 w := fun x0 x1 x2 x3 x4 x5 x6 w => by kernel_rfl
  have p5 : ∀ (x0 x1 x2 x3 x4 x5 x6 : Value) (w : World), (Go.part 4 #[x0, x1, x2, x3, x4, x5, x6] 6).run Tryd.prog w = .ok x6 w := fun x0 x1 x2 x3 x4 x5 x6 w => by kernel_rfl
  have hin : ∀ (a b : Int) (w : World), (Op.equalIn (n + 2) 3 (.int .i64 a) (.int .i64 b)).run Tryd.prog w = .ok (a == b) w := fun a b w => run_equalIn_int w (n + 1) 3 .i64 .i64 a b (by kernel_rfl)
  have hs : ∀ (a b : ByteArray) (w : World), (Op.equalIn (n + 2) 9 (.string a) (.string b)).run Tryd.prog w = .ok (a.toList == b.toList) w := fun a b w => run_equalIn_string w (n + 1) 9 a b (by kernel_rfl)
  have hbo : ∀ (a b : Bool) (w : World), (Op.equalIn (n + 2) 4 (.bool a) (.bool b)).run Tryd.prog w = .ok (a == b) w := fun a b w => run_equalIn_bool' w (n + 1) 4 a b (by kernel_rfl)
  have q0 : ("Kind" : String) ≠ "_" := by decide
  have q1 : ("Key" : String) ≠ "_" := by decide
  have q2 : ("Val" : String) ≠ "_" := by decide
  have q3 : ("Range" : String) ≠ "_" := by decide
  have q4 : ("Most" : String) ≠ "_" := by decide
  have q5 : ("Back" : String) ≠ "_" := by decide
  simp only [Op.eqFields, n0, t0, o0, if_pos q0, n1, t1, o1, if_pos q1, n2, t2, o2, if_pos q2, n3, t3, o3, if_pos q3, n4, t4, o4, if_pos q4, n5, t5, o5, if_pos q5, Sem.run_bind, p0, p1, p2, p3, p4, p5, hin, hs, hbo, eqIn_rngF, Result.andThen_ok, Sem.run_ite, Sem.run_pure]
  generalize (k == k') = b0
  generalize (ky.toList == ky'.toList) = b1
  generalize (vl.toList == vl'.toList) = b2
  generalize (lo.toList == lo'.toList && hi.toList == hi'.toList) = b3
  generalize (mo == mo') = b4
  generalize (bk == bk') = b5
  cases b0 <;> cases b1 <;> cases b2 <;> cases b3 <;> cases b4 <;> cases b5 <;> first | rfl | simp
theorem eqIn_call (kd ak : Int) (ky vl lo hi : ByteArray) (mo : Int) (bk : Bool) (kd' ak' : Int) (ky' vl' lo' hi' : ByteArray) (mo' : Int) (bk' : Bool) (w : World) : (Op.equalIn 10000 37 (.agg #[.int .i64 kd, .int .i64 ak, .string ky, .string vl, .string lo, .string hi, .int .i64 mo, .bool bk]) (.agg #[.int .i64 kd', .int .i64 ak', .string ky', .string vl', .string lo', .string hi', .int .i64 mo', .bool bk'])).run Tryd.prog w = .ok ((kd == kd') && ((ak == ak') && (ky.toList == ky'.toList && (vl.toList == vl'.toList && ((lo.toList == lo'.toList && hi.toList == hi'.toList) && (mo == mo' && bk == bk')))))) w := by
  rw [run_equalIn_struct w 9999 37 _ _ (by kernel_rfl) (by kernel_rfl)]
  obtain ⟨f0, f1, hu, n0, n1, t0, t1, o0, o1⟩ : ∃ f0 f1 : Field, Tryd.prog.underlying 37 = some (.struct #[f0, f1]) ∧ f0.name = "Kind" ∧ f1.name = "Ask" ∧ f0.type = 3 ∧ f1.type = 35 ∧ f0.offset = 0 ∧ f1.offset = 1 := ⟨_, _, Tryd.underlying37, rfl, rfl, rfl, rfl, rfl, rfl⟩
  have hl : (Tryd.prog.fieldsOf 37).toList = [f0, f1] := by simp [Program.fieldsOf, hu]
  rw [hl]
  have p0 : ∀ (x0 x1 x2 x3 x4 x5 x6 x7 : Value) (w : World), (Go.part 3 #[x0, x1, x2, x3, x4, x5, x6, x7] 0).run Tryd.prog w = .ok x0 w := fun x0 x1 x2 x3 x4 x5 x6 x7 w => by kernel_rfl
  have p1 : ∀ (x0 x1 x2 x3 x4 x5 x6 x7 : Value) (w : World), (Go.part 35 #[x0, x1, x2, x3, x4, x5, x6, x7] 1).run Tryd.prog w = .ok (.agg #[x1, x2, x3, x4, x5, x6, x7]) w := fun x0 x1 x2 x3 x4 x5 x6 x7 w => by kernel_rfl
  have hin : ∀ (a b : Int) (w : World), (Op.equalIn 9999 3 (.int .i64 a) (.int .i64 b)).run Tryd.prog w = .ok (a == b) w := fun a b w => run_equalIn_int w 9998 3 .i64 .i64 a b (by kernel_rfl)
  have q0 : ("Kind" : String) ≠ "_" := by decide
  have q1 : ("Ask" : String) ≠ "_" := by decide
  have ha := fun (k : Int) (ky vl lo hi : ByteArray) (mo : Int) (bk : Bool) (k' : Int) (ky' vl' lo' hi' : ByteArray) (mo' : Int) (bk' : Bool) (w : World) => eqIn_askF 9996 k ky vl lo hi mo bk k' ky' vl' lo' hi' mo' bk' w
  simp only [Nat.reduceAdd] at ha
  simp only [Op.eqFields, n0, t0, o0, if_pos q0, n1, t1, o1, if_pos q1, Sem.run_bind, p0, p1, hin, ha, Result.andThen_ok, Sem.run_ite, Sem.run_pure]
  generalize (kd == kd') = b0
  generalize ((ak == ak') && (ky.toList == ky'.toList && (vl.toList == vl'.toList && ((lo.toList == lo'.toList && hi.toList == hi'.toList) && (mo == mo' && bk == bk'))))) = b1
  cases b0 <;> cases b1 <;> first | rfl | simp
theorem eql_callZ (kd ak : Int) (ky vl lo hi : ByteArray) (mo : Int) (bk : Bool) (w : World) : (binOp .eql 37 (.agg #[.int .i64 kd, .int .i64 ak, .string ky, .string vl, .string lo, .string hi, .int .i64 mo, .bool bk]) (.agg #[.int .i64 0, .int .i64 0, .string ⟨#[]⟩, .string ⟨#[]⟩, .string ⟨#[]⟩, .string ⟨#[]⟩, .int .i64 0, .bool false])).run Tryd.prog w = .ok (.bool (clZ kd ak ky vl lo hi mo bk)) w := by
  rw [run_eql_struct, eqIn_call, isE_beq, isE_beq, isE_beq, isE_beq]
  unfold clZ akZ
  cases bk <;> rfl
theorem guard_call (op : BinOp) (x y : Operand) (xs ys : Array Value) (w : World) : (eqGuard op 37 x y (.agg xs) (.agg ys)).run Tryd.prog w = .ok () w := run_eqGuard_agg w op 37 x y xs ys (by kernel_rfl)
theorem wr_1 (a b : Int) (kp : List Int) (kd ak : Int) (ky vl lo hi : ByteArray) (mo : Int) (bk : Bool) : stWr ⟨1, a, b, kp, kd, ak, ky, vl, lo, hi, mo, bk⟩ = (decide (b = 0) && (decide (kp = []) && clOk kd ak ky vl lo hi mo bk)) := rfl
theorem wr_7 (a b : Int) (kp : List Int) (kd ak : Int) (ky vl lo hi : ByteArray) (mo : Int) (bk : Bool) : stWr ⟨7, a, b, kp, kd, ak, ky, vl, lo, hi, mo, bk⟩ = clZ kd ak ky vl lo hi mo bk := rfl
theorem wr_e {k : Int} (h1 : ¬ k = 1) (h7 : ¬ k = 7) (a b : Int) (kp : List Int) (kd ak : Int) (ky vl lo hi : ByteArray) (mo : Int) (bk : Bool) : stWr ⟨k, a, b, kp, kd, ak, ky, vl, lo, hi, mo, bk⟩ = ((decide (k ≠ 5) || decide (a = 0)) && (decide (b = 0) && (decide (kp = []) && clZ kd ak ky vl lo hi mo bk))) := by
  unfold stWr
  dsimp only
  rw [if_neg h1, if_neg h7]
set_option maxHeartbeats 4000000 in
theorem isWritten_any (S : Nat → Prop) (k a b : Int) (ka : Option Addr) (kn kc : Nat) (kp : List Int) (kd ak : Int) (ky vl lo hi : ByteArray) (mo : Int) (bk : Bool) (w : World) (hp : Ir w S (.slice ka kn kc) kp) :
    Calls Tryd.prog 23 #[.agg #[.int .i64 k, .int .i64 a, .int .i64 b, .slice ka kn kc, .int .i64 kd, .int .i64 ak, .string ky, .string vl, .string lo, .string hi, .int .i64 mo, .bool bk]] w fun e w' => e = .returned (.bool (stWr ⟨k, a, b, kp, kd, ak, ky, vl, lo, hi, mo, bk⟩)) ∧ Below w.heap.size w w' := by
  have B0 := hid (below_new (o := .cells #[.int .i64 k, .int .i64 a, .int .i64 b, .slice ka kn kc, .int .i64 kd, .int .i64 ak, .string ky, .string vl, .string lo, .string hi, .int .i64 mo, .bool bk] 39) (w := w) (Below.refl _ _))
  have K0 := hid (Bk.new w 39 [.int .i64 k, .int .i64 a, .int .i64 b, .slice ka kn kc, .int .i64 kd, .int .i64 ak, .string ky, .string vl, .string lo, .string hi, .int .i64 mo, .bool bk])
  have hkn : (kp = []) ↔ kn = 0 := by rw [(Rw.len hp).1]; exact List.length_eq_zero_iff.symm
  have C1 := hid (fun w => implCallOk_any kd ak ky vl lo hi mo bk w)
  have HE := hid (fun w => eql_callZ kd ak ky vl lo hi mo bk w)
  have hg := guard_call .eql
  have KN := hid hkn
  clear hp hkn
  generalize hU : w.alloc (.cells #[.int .i64 k, .int .i64 a, .int .i64 b, .slice ka kn kc, .int .i64 kd, .int .i64 ak, .string ky, .string vl, .string lo, .string hi, .int .i64 mo, .bool bk] 39) = U at *
  have HU := hid hU
  clear hU
  by_cases h1 : k = 1
  · subst h1
    have HV := hid (wr_1 a b kp kd ak ky vl lo hi mo bk)
    generalize stWr ⟨1, a, b, kp, kd, ak, ky, vl, lo, hi, mo, bk⟩ = z0 at *
    by_cases hb : b = 0
    · by_cases hk : kn = 0
      · subst hb hk
        have HP := hid (KN.out.2 rfl)
        generalize clOk kd ak ky vl lo hi mo bk = z1 at *
        have c0 := K0.out.cell (j := 0) rfl
        have c2 := K0.out.cell (j := 2) rfl
        have c3 := K0.out.cell (j := 3) rfl
        have c4 := K0.out.cell (j := 4) rfl
        have c5 := K0.out.cell (j := 5) rfl
        have c6 := K0.out.cell (j := 6) rfl
        have c7 := K0.out.cell (j := 7) rfl
        have c8 := K0.out.cell (j := 8) rfl
        have c9 := K0.out.cell (j := 9) rfl
        have c10 := K0.out.cell (j := 10) rfl
        have c11 := K0.out.cell (j := 11) rfl
        go_enter Tryd.func23, Tryd.ntmps23
        go_wp2_with fail
        rw [HU.out]
        go_wp2_with fail
        refine (C1.out _).mono ?_
        rintro r w1 ⟨rfl, hb⟩
        have B1 := hid (B0.out.trans (hb.mono B0.out.size))
        clear hb
        go_wp2
        go_ret
        exact ⟨by rw [HV.out, HP.out]; rfl, B1.out⟩
      · have HP : Hid (decide (kp = []) = false) := decide_eq_false (fun e => hk (KN.out.1 e))
        have hk' : ¬ (kn : Int) = 0 := by omega
        subst hb
        have c0 := K0.out.cell (j := 0) rfl
        have c2 := K0.out.cell (j := 2) rfl
        have c3 := K0.out.cell (j := 3) rfl
        have c4 := K0.out.cell (j := 4) rfl
        have c5 := K0.out.cell (j := 5) rfl
        have c6 := K0.out.cell (j := 6) rfl
        have c7 := K0.out.cell (j := 7) rfl
        have c8 := K0.out.cell (j := 8) rfl
        have c9 := K0.out.cell (j := 9) rfl
        have c10 := K0.out.cell (j := 10) rfl
        have c11 := K0.out.cell (j := 11) rfl
        go_enter Tryd.func23, Tryd.ntmps23
        go_wp2_with fail
        rw [HU.out]
        go_wp2
        go_ret
        exact ⟨by rw [HV.out, HP.out]; simp, B0.out⟩
    · have HP : Hid (decide (b = 0) = false) := decide_eq_false hb
      have c0 := K0.out.cell (j := 0) rfl
      have c2 := K0.out.cell (j := 2) rfl
      have c3 := K0.out.cell (j := 3) rfl
      have c4 := K0.out.cell (j := 4) rfl
      have c5 := K0.out.cell (j := 5) rfl
      have c6 := K0.out.cell (j := 6) rfl
      have c7 := K0.out.cell (j := 7) rfl
      have c8 := K0.out.cell (j := 8) rfl
      have c9 := K0.out.cell (j := 9) rfl
      have c10 := K0.out.cell (j := 10) rfl
      have c11 := K0.out.cell (j := 11) rfl
      go_enter Tryd.func23, Tryd.ntmps23
      go_wp2_with fail
      rw [HU.out]
      go_wp2
      go_ret
      exact ⟨by rw [HV.out, HP.out]; rfl, B0.out⟩
  by_cases h7 : k = 7
  · subst h7
    have HV := hid (wr_7 a b kp kd ak ky vl lo hi mo bk)
    generalize stWr ⟨7, a, b, kp, kd, ak, ky, vl, lo, hi, mo, bk⟩ = z0 at *
    have hq := HE.out
    generalize clZ kd ak ky vl lo hi mo bk = z1 at *
    have c0 := K0.out.cell (j := 0) rfl
    have c4 := K0.out.cell (j := 4) rfl
    have c5 := K0.out.cell (j := 5) rfl
    have c6 := K0.out.cell (j := 6) rfl
    have c7 := K0.out.cell (j := 7) rfl
    have c8 := K0.out.cell (j := 8) rfl
    have c9 := K0.out.cell (j := 9) rfl
    have c10 := K0.out.cell (j := 10) rfl
    have c11 := K0.out.cell (j := 11) rfl
    go_enter Tryd.func23, Tryd.ntmps23
    go_wp2_with fail
    rw [HU.out]
    go_wp2
    go_ret
    exact ⟨by rw [HV.out]; rfl, B0.out⟩
  have HV := hid (wr_e h1 h7 a b kp kd ak ky vl lo hi mo bk)
  generalize stWr ⟨k, a, b, kp, kd, ak, ky, vl, lo, hi, mo, bk⟩ = z0 at *
  by_cases h5 : k = 5 ∧ ¬ a = 0
  · obtain ⟨rfl, ha⟩ := h5
    have HP : Hid (decide (a = 0) = false) := decide_eq_false ha
    have c0 := K0.out.cell (j := 0) rfl
    have c1 := K0.out.cell (j := 1) rfl
    go_enter Tryd.func23, Tryd.ntmps23
    go_wp2_with fail
    rw [HU.out]
    go_wp2
    go_ret
    exact ⟨by rw [HV.out]; rw [HP.out]; rfl, B0.out⟩
  have H5 : Hid ((decide (k ≠ 5) || decide (a = 0)) = true) := by
    show _ = true
    simp only [Bool.or_eq_true, decide_eq_true_eq]
    by_cases q : k = 5
    · exact .inr (Classical.byContradiction fun r => h5 ⟨q, r⟩)
    · exact .inl q
  have h5' : k = 5 → a = 0 := fun q => Classical.byContradiction fun r => h5 ⟨q, r⟩
  have hq := HE.out
  by_cases hb : b = 0
  · by_cases hk : kn = 0
    · subst hb hk
      have HP := hid (KN.out.2 rfl)
      generalize clZ kd ak ky vl lo hi mo bk = z1 at *
      by_cases hk5 : k = 5
      · obtain rfl := h5' hk5
        subst hk5
        have c0 := K0.out.cell (j := 0) rfl
        have c1 := K0.out.cell (j := 1) rfl
        have c2 := K0.out.cell (j := 2) rfl
        have c3 := K0.out.cell (j := 3) rfl
        have c4 := K0.out.cell (j := 4) rfl
        have c5 := K0.out.cell (j := 5) rfl
        have c6 := K0.out.cell (j := 6) rfl
        have c7 := K0.out.cell (j := 7) rfl
        have c8 := K0.out.cell (j := 8) rfl
        have c9 := K0.out.cell (j := 9) rfl
        have c10 := K0.out.cell (j := 10) rfl
        have c11 := K0.out.cell (j := 11) rfl
        go_enter Tryd.func23, Tryd.ntmps23
        go_wp2_with fail
        rw [HU.out]
        go_wp2
        go_ret
        exact ⟨by rw [HV.out, HP.out]; rfl, B0.out⟩
      · clear h5 h5'
        have c0 := K0.out.cell (j := 0) rfl
        have c1 := K0.out.cell (j := 1) rfl
        have c2 := K0.out.cell (j := 2) rfl
        have c3 := K0.out.cell (j := 3) rfl
        have c4 := K0.out.cell (j := 4) rfl
        have c5 := K0.out.cell (j := 5) rfl
        have c6 := K0.out.cell (j := 6) rfl
        have c7 := K0.out.cell (j := 7) rfl
        have c8 := K0.out.cell (j := 8) rfl
        have c9 := K0.out.cell (j := 9) rfl
        have c10 := K0.out.cell (j := 10) rfl
        have c11 := K0.out.cell (j := 11) rfl
        go_enter Tryd.func23, Tryd.ntmps23
        go_wp2_with fail
        rw [HU.out]
        go_wp2
        go_ret
        exact ⟨by rw [HV.out, H5.out, HP.out]; rfl, B0.out⟩
    · have HP : Hid (decide (kp = []) = false) := decide_eq_false (fun e => hk (KN.out.1 e))
      have hk' : ¬ (kn : Int) = 0 := by omega
      subst hb
      clear hq
      by_cases hk5 : k = 5
      · obtain rfl := h5' hk5
        subst hk5
        have c0 := K0.out.cell (j := 0) rfl
        have c1 := K0.out.cell (j := 1) rfl
        have c2 := K0.out.cell (j := 2) rfl
        have c3 := K0.out.cell (j := 3) rfl
        have c4 := K0.out.cell (j := 4) rfl
        have c5 := K0.out.cell (j := 5) rfl
        have c6 := K0.out.cell (j := 6) rfl
        have c7 := K0.out.cell (j := 7) rfl
        have c8 := K0.out.cell (j := 8) rfl
        have c9 := K0.out.cell (j := 9) rfl
        have c10 := K0.out.cell (j := 10) rfl
        have c11 := K0.out.cell (j := 11) rfl
        go_enter Tryd.func23, Tryd.ntmps23
        go_wp2_with fail
        rw [HU.out]
        go_wp2
        go_ret
        exact ⟨by rw [HV.out, HP.out]; simp, B0.out⟩
      · clear h5 h5'
        have c0 := K0.out.cell (j := 0) rfl
        have c1 := K0.out.cell (j := 1) rfl
        have c2 := K0.out.cell (j := 2) rfl
        have c3 := K0.out.cell (j := 3) rfl
        have c4 := K0.out.cell (j := 4) rfl
        have c5 := K0.out.cell (j := 5) rfl
        have c6 := K0.out.cell (j := 6) rfl
        have c7 := K0.out.cell (j := 7) rfl
        have c8 := K0.out.cell (j := 8) rfl
        have c9 := K0.out.cell (j := 9) rfl
        have c10 := K0.out.cell (j := 10) rfl
        have c11 := K0.out.cell (j := 11) rfl
        go_enter Tryd.func23, Tryd.ntmps23
        go_wp2_with fail
        rw [HU.out]
        go_wp2
        go_ret
        exact ⟨by rw [HV.out, HP.out]; simp, B0.out⟩
  · have HP : Hid (decide (b = 0) = false) := decide_eq_false hb
    clear hq
    by_cases hk5 : k = 5
    · obtain rfl := h5' hk5
      subst hk5
      have c0 := K0.out.cell (j := 0) rfl
      have c1 := K0.out.cell (j := 1) rfl
      have c2 := K0.out.cell (j := 2) rfl
      have c3 := K0.out.cell (j := 3) rfl
      have c4 := K0.out.cell (j := 4) rfl
      have c5 := K0.out.cell (j := 5) rfl
      have c6 := K0.out.cell (j := 6) rfl
      have c7 := K0.out.cell (j := 7) rfl
      have c8 := K0.out.cell (j := 8) rfl
      have c9 := K0.out.cell (j := 9) rfl
      have c10 := K0.out.cell (j := 10) rfl
      have c11 := K0.out.cell (j := 11) rfl
      go_enter Tryd.func23, Tryd.ntmps23
      go_wp2_with fail
      rw [HU.out]
      go_wp2
      go_ret
      exact ⟨by rw [HV.out, HP.out]; simp, B0.out⟩
    · clear h5 h5'
      have c0 := K0.out.cell (j := 0) rfl
      have c1 := K0.out.cell (j := 1) rfl
      have c2 := K0.out.cell (j := 2) rfl
      have c3 := K0.out.cell (j := 3) rfl
      have c4 := K0.out.cell (j := 4) rfl
      have c5 := K0.out.cell (j := 5) rfl
      have c6 := K0.out.cell (j := 6) rfl
      have c7 := K0.out.cell (j := 7) rfl
      have c8 := K0.out.cell (j := 8) rfl
      have c9 := K0.out.cell (j := 9) rfl
      have c10 := K0.out.cell (j := 10) rfl
      have c11 := K0.out.cell (j := 11) rfl
      go_enter Tryd.func23, Tryd.ntmps23
      go_wp2_with fail
      rw [HU.out]
      go_wp2
      go_ret
      exact ⟨by rw [HV.out, HP.out]; simp, B0.out⟩
theorem join_bound : ∀ (ws : List ByteArray), (∀ w ∈ ws, w.size ≤ 1048576) → ws.length ≤ 4194304 → (Lib.join (ws.map (·.data.toList)) [32]).length ≤ 140737488355328
  | [], _, _ => by simp [Lib.join, List.intercalate]
  | x :: r, h, hl => by
    rw [List.map_cons, Lib.join_length]
    have hb : ∀ (l : List ByteArray), (∀ w ∈ l, w.size ≤ 1048576) → Lib.lens (l.map (·.data.toList)) ≤ 1048576 * l.length := by
      intro l
      induction l with
      | nil => intro _; simp [Lib.lens]
      | cons y l ih =>
        intro h
        have h1 := ih (fun w hw => h w (List.mem_cons_of_mem _ hw))
        have h2 : y.data.toList.length ≤ 1048576 := by have := h y (List.mem_cons_self ..); rw [Array.length_toList]; exact this
        simp only [Lib.lens, List.map_cons, List.sum_cons, List.length_cons] at h1 ⊢
        omega
    have := hb (x :: r) h
    rw [List.map_cons] at this
    simp only [List.length_cons, List.length_map, List.length_nil] at this hl ⊢
    omega
set_option maxHeartbeats 1600000 in
theorem lineOf_any (B : Nat) (a : Option Addr) (n c : Nat) (ws : List ByteArray) (w : World) (h : OW w B (.slice a n c) ws) (hz : ∀ x ∈ ws, x.size ≤ 1048576) (hl : ws.length ≤ 4194304) :
    Calls Tryd.prog 26 #[.slice a n c] w fun e w' => e = .returned (.string (joinW ws)) ∧ Below w.heap.size w w' := by
  have CJ : Hid (Calls Tryd.prog 50 #[.slice a n c, .string ⟨#[32]⟩] w fun e w' => e = .returned (.string (joinW ws)) ∧ Below w.heap.size w w') := by
    rw [joinW_lib]
    obtain ⟨h1, h2⟩ := h
    rcases h2 with ⟨h2, h3⟩ | ⟨g, cap, cur, e, hB, hg, hc, hm, hs, ht⟩
    · have hw : ws = [] := List.length_eq_zero_iff.1 h3
      subst hw
      cases h2
      exact (Any.strings_Join_none Tryd.lays156 Tryd.Builder_Extra_156 none 0 ⟨#[32]⟩ w).mono fun e w' ⟨he, hw⟩ => ⟨by rw [he]; rfl, hw ▸ Below.refl _ _⟩
    · cases e
      refine Any.strings_Join Tryd.lays156 Tryd.Builder_Extra_156 g 0 c ws ⟨#[32]⟩ w ?_ ?_ (by omega) (by omega) (join_bound ws hz hl)
      · intro j x hx
        have hj : (ws.map Value.string)[j]? = some (.string x) := by rw [List.getElem?_map, hx]; rfl
        have := World.ownsRow.cells (w := w) (base := B) (e := 9) (size := 1) (v := .slice (some ⟨g, 0, none⟩) ws.length c) (n := ws.length) (xs := ws.map Value.string) ⟨h1, .inr ⟨g, c, cur, rfl, hB, hg, hc, hm, hs, ht⟩⟩ rfl j _ hj
        rw [Addr.add_lit] at this
        exact this
      · exact (Array.getElem?_eq_some_iff.1 hg).1
  clear h
  go_enter Tryd.func26, Tryd.ntmps26
  go_wp2_with fail
  refine CJ.out.mono ?_
  rintro r w1 ⟨rfl, hb⟩
  have HB := hid hb
  clear hb
  go_wp2
  go_ret
  exact ⟨rfl, HB.out⟩
end Go.Proofs.YtjddkofpfmjojaaDoor
/-
  StepText of the program.
-/
namespace Go.Proofs.YtjddkofpfmjojaaDoor
open Go.RowKit
set_option linter.unusedVariables false
theorem stW_size (S : ST) : ∀ x ∈ stW S, x.size ≤ 1048576 := by
  have hsw : ∀ k, (sw k).size ≤ 7 := by
    intro k
    by_cases h : 0 ≤ k ∧ k < 10
    · have : k = 0 ∨ k = 1 ∨ k = 2 ∨ k = 3 ∨ k = 4 ∨ k = 5 ∨ k = 6 ∨ k = 7 ∨ k = 8 ∨ k = 9 := by omega
      rcases this with rfl | rfl | rfl | rfl | rfl | rfl | rfl | rfl | rfl | rfl <;> decide
    · rw [sw_no (by omega)]; decide
  have hcw : ∀ kd, (cwd kd).size ≤ 7 := by
    intro kd
    unfold cwd
    split <;> (try split) <;> (try split) <;> (try split) <;> decide
  have hq := wq_size
  have hn := numS_size
  intro x hx
  unfold stW at hx
  rcases List.mem_cons.1 hx with rfl | hx
  · have := hsw S.k; omega
  · rcases List.mem_append.1 hx with hx | hx
    · split at hx
      · cases hx
      · simp only [List.mem_cons, List.not_mem_nil, or_false] at hx; subst hx; have := hn S.a; omega
    · split at hx
      · unfold clW at hx
        split at hx
        · unfold akW at hx
          split at hx
          · simp only [List.mem_cons, List.not_mem_nil, or_false] at hx
            rcases hx with rfl | rfl
            · decide
            · have := hq S.ky; omega
          · split at hx
            · simp only [List.mem_cons, List.not_mem_nil, or_false] at hx
              rcases hx with rfl | rfl | rfl
              · decide
              · have := hq S.ky; omega
              · have := hq S.vl; omega
            · split at hx
              · simp only [List.mem_cons, List.not_mem_nil, or_false] at hx
                rcases hx with rfl | rfl
                · decide
                · have := hq S.ky; omega
              · simp only [List.mem_cons, List.not_mem_nil, or_false] at hx
                rcases hx with rfl | rfl | rfl | rfl
                · cases S.bk <;> decide
                · have := hq S.lo; omega
                · have := hq S.hi; omega
                · have := hn S.mo; omega
        · simp only [List.mem_cons, List.not_mem_nil, or_false] at hx; subst hx; have := hcw S.kd; omega
      · split at hx
        · rcases List.mem_cons.1 hx with rfl | hx
          · have := hn S.b; omega
          · obtain ⟨n, _, rfl⟩ := List.mem_map.1 hx; have := hn n; omega
        · cases hx
theorem stW_len (S : ST) (h : S.kp.length ≤ 1048576) : (stW S).length ≤ 4194304 := by
  unfold stW
  have := clW_len S.kd S.ak S.ky S.vl S.lo S.hi S.mo S.bk
  simp only [List.length_cons, List.length_append]
  split <;> split <;> (try split) <;> simp <;> omega
theorem wr_sizes {k a b : Int} {kp : List Int} {kd ak : Int} {ky vl lo hi : ByteArray} {mo : Int} {bk : Bool} (h : stWr ⟨k, a, b, kp, kd, ak, ky, vl, lo, hi, mo, bk⟩ = true) (hk : k = 1) : ky.size ≤ 1048576 ∧ vl.size ≤ 1048576 ∧ lo.size ≤ 1048576 ∧ hi.size ≤ 1048576 := by
  subst hk
  rw [wr_1] at h
  simp only [Bool.and_eq_true] at h
  exact clOk_sizes h.2.2
theorem stT_no1 {S : ST} (h : stWr S = false) : stT S = ⟨#[]⟩ := by unfold stT; rw [h]; rfl
theorem stT_no2 {S : ST} (h : noE (stW S) = false) : stT S = ⟨#[]⟩ := by unfold stT; rw [h, Bool.and_false]; rfl
theorem stT_is {S : ST} (h : stWr S = true) (k : noE (stW S) = true) : stT S = joinW (stW S) := by unfold stT; rw [h, k]; rfl
theorem cont_noE (ws : List ByteArray) : Lib.containsS ws ⟨#[]⟩ = !noE ws := by
  have h1 := Lib.containsS_iff ws ⟨#[]⟩
  cases h : noE ws with
  | true =>
    cases k : Lib.containsS ws ⟨#[]⟩ with
    | false => rfl
    | true => exact absurd rfl (noE_mem h (h1.1 k))
  | false =>
    have : ∃ w ∈ ws, w = ByteArray.empty := by
      unfold noE at h
      obtain ⟨w, hw, hz⟩ := List.all_eq_false.1 h
      exact ⟨w, hw, by simpa using hz⟩
    obtain ⟨w, hw, rfl⟩ := this
    rw [h1.2 hw]; rfl
theorem contains_any (B : Nat) (a : Option Addr) (n c : Nat) (ws : List ByteArray) (w : World) (h : OW w B (.slice a n c) ws) (hl : ws.length ≤ 4194304) :
    Calls Tryd.prog 25 #[.slice a n c, .string ⟨#[]⟩] w fun e w' => e = .returned (.bool (!noE ws)) ∧ w' = w := by
  rw [← cont_noE]
  obtain ⟨h1, h2⟩ := h
  rcases h2 with ⟨h2, h3⟩ | ⟨g, cap, cur, e, hB, hg, hc, hm, hs, ht⟩
  · have hw : ws = [] := List.length_eq_zero_iff.1 h3
    subst hw
    cases h2
    exact Any.slices_Contains_string_empty Tryd.lays110 none 0 ⟨#[]⟩ w
  · cases e
    have := Any.slices_Contains_string Tryd.lays110 g 0 ws.length c ws ⟨#[]⟩ w (Nat.le_refl _) (by omega) (fun j hj => by
      have hjj : (ws.map Value.string)[j]? = some (.string (ws.getD j ByteArray.empty)) := by rw [List.getElem?_map, List.getElem?_eq_getElem hj, List.getD_eq_getElem?_getD, List.getElem?_eq_getElem hj]; rfl
      have := World.ownsRow.cells (w := w) (base := B) (e := 9) (size := 1) (v := .slice (some ⟨g, 0, none⟩) ws.length c) (n := ws.length) (xs := ws.map Value.string) ⟨h1, .inr ⟨g, c, cur, rfl, hB, hg, hc, hm, hs, ht⟩⟩ rfl j _ hjj
      rw [Addr.add_lit] at this
      exact this)
    rwa [List.take_length] at this
set_option maxHeartbeats 4000000 in
theorem implStepText_any (S : Nat → Prop) (k a b : Int) (ka : Option Addr) (kn kc : Nat) (kp : List Int) (kd ak : Int) (ky vl lo hi : ByteArray) (mo : Int) (bk : Bool) (w : World) (hp : Ir w S (.slice ka kn kc) kp) (hn : kn ≤ 1048576) (hw : GW w) :
    Calls Tryd.prog 8 #[.agg #[.int .i64 k, .int .i64 a, .int .i64 b, .slice ka kn kc, .int .i64 kd, .int .i64 ak, .string ky, .string vl, .string lo, .string hi, .int .i64 mo, .bool bk]] w fun e w' => e = .returned (.string (stT ⟨k, a, b, kp, kd, ak, ky, vl, lo, hi, mo, bk⟩)) ∧ Below w.heap.size w w' := by
  have K0 := hid (Bk.new w 39 [.int .i64 k, .int .i64 a, .int .i64 b, .slice ka kn kc, .int .i64 kd, .int .i64 ak, .string ky, .string vl, .string lo, .string hi, .int .i64 mo, .bool bk])
  have HUS : Hid (Below w.heap.size w (w.alloc (.cells #[.int .i64 k, .int .i64 a, .int .i64 b, .slice ka kn kc, .int .i64 kd, .int .i64 ak, .string ky, .string vl, .string lo, .string hi, .int .i64 mo, .bool bk] 39))) := (Below.refl w.heap.size w).alloc (Nat.le_refl _) _
  have G0 := hid (hw.to HUS.out)
  have H0 := hid (hp.below HUS.out)
  have HL : Hid (kp.length ≤ 1048576) := by have := (Rw.len hp).1; show _ ≤ _; omega
  have C1 := hid (fun w h => isWritten_any S k a b ka kn kc kp kd ak ky vl lo hi mo bk w h)
  have C2 := hid (fun w h hw (hz : stWr ⟨k, a, b, kp, kd, ak, ky, vl, lo, hi, mo, bk⟩ = true) => wordsOfStep_any S k a b ka kn kc kp kd ak ky vl lo hi mo bk w h hn (fun hk => wr_sizes hz hk) hw)
  have V1 := hid (fun h => stT_no1 (S := ⟨k, a, b, kp, kd, ak, ky, vl, lo, hi, mo, bk⟩) h)
  have V2 := hid (fun h => stT_no2 (S := ⟨k, a, b, kp, kd, ak, ky, vl, lo, hi, mo, bk⟩) h)
  have V3 := hid (fun h hh => stT_is (S := ⟨k, a, b, kp, kd, ak, ky, vl, lo, hi, mo, bk⟩) h hh)
  have Z1 := hid (stW_size ⟨k, a, b, kp, kd, ak, ky, vl, lo, hi, mo, bk⟩)
  have Z2 := hid (stW_len ⟨k, a, b, kp, kd, ak, ky, vl, lo, hi, mo, bk⟩ HL.out)
  clear hw hp
  generalize stT ⟨k, a, b, kp, kd, ak, ky, vl, lo, hi, mo, bk⟩ = t0 at *
  generalize stW ⟨k, a, b, kp, kd, ak, ky, vl, lo, hi, mo, bk⟩ = ws at *
  generalize stWr ⟨k, a, b, kp, kd, ak, ky, vl, lo, hi, mo, bk⟩ = z at *
  generalize hU : w.alloc (.cells #[.int .i64 k, .int .i64 a, .int .i64 b, .slice ka kn kc, .int .i64 kd, .int .i64 ak, .string ky, .string vl, .string lo, .string hi, .int .i64 mo, .bool bk] 39) = U at *
  have HU := hid hU
  clear hU
  have B0 : Hid (Below U.heap.size U U) := Below.refl _ _
  have c0 := (K0.out.below B0.out).cell (j := 0) rfl
  have c1 := (K0.out.below B0.out).cell (j := 1) rfl
  have c2 := (K0.out.below B0.out).cell (j := 2) rfl
  have c3 := (K0.out.below B0.out).cell (j := 3) rfl
  have c4 := (K0.out.below B0.out).cell (j := 4) rfl
  have c5 := (K0.out.below B0.out).cell (j := 5) rfl
  have c6 := (K0.out.below B0.out).cell (j := 6) rfl
  have c7 := (K0.out.below B0.out).cell (j := 7) rfl
  have c8 := (K0.out.below B0.out).cell (j := 8) rfl
  have c9 := (K0.out.below B0.out).cell (j := 9) rfl
  have c10 := (K0.out.below B0.out).cell (j := 10) rfl
  have c11 := (K0.out.below B0.out).cell (j := 11) rfl
  go_enter Tryd.func8, Tryd.ntmps8
  go_wp2_with fail
  rw [HU.out]
  go_wp2_with fail
  refine (C1.out _ H0.out).mono ?_
  rintro r w1 ⟨rfl, hb⟩
  have B1 := hid hb
  clear c0 c1 c2 c3 c4 c5 c6 c7 c8 c9 c10 c11 hb
  cases z with
  | false =>
    have V := hid (V1.out rfl)
    have BW : Hid (Below w.heap.size w w1) := HUS.out.trans (B1.out.mono HUS.out.size)
    clear V1 V2 V3
    go_wp2
    go_ret
    exact ⟨by rw [V.out]; rfl, BW.out⟩
  | true =>
    have c0 := (K0.out.below B1.out).cell (j := 0) rfl
    have c1 := (K0.out.below B1.out).cell (j := 1) rfl
    have c2 := (K0.out.below B1.out).cell (j := 2) rfl
    have c3 := (K0.out.below B1.out).cell (j := 3) rfl
    have c4 := (K0.out.below B1.out).cell (j := 4) rfl
    have c5 := (K0.out.below B1.out).cell (j := 5) rfl
    have c6 := (K0.out.below B1.out).cell (j := 6) rfl
    have c7 := (K0.out.below B1.out).cell (j := 7) rfl
    have c8 := (K0.out.below B1.out).cell (j := 8) rfl
    have c9 := (K0.out.below B1.out).cell (j := 9) rfl
    have c10 := (K0.out.below B1.out).cell (j := 10) rfl
    have c11 := (K0.out.below B1.out).cell (j := 11) rfl
    go_wp2_with fail
    refine (C2.out _ (H0.out.below B1.out) (G0.out.to B1.out) trivial).mono ?_
    rintro r w2 ⟨xa, xn, xc, rfl, hO, hb⟩
    have O2 := hid hO
    have BW : Hid (Below w.heap.size w w2) := HUS.out.trans ((B1.out.trans (hb.mono B1.out.size)).mono HUS.out.size)
    clear c0 c1 c2 c3 c4 c5 c6 c7 c8 c9 c10 c11 hO hb
    go_wp2_with fail
    refine (contains_any _ _ _ _ _ _ O2.out Z2.out).mono ?_
    rintro r w3 ⟨rfl, rfl⟩
    cases hz : noE ws with
    | false =>
      have V := hid (V2.out hz)
      clear V1 V2 V3 hz
      go_wp2
      go_ret
      exact ⟨by rw [V.out]; rfl, BW.out⟩
    | true =>
      have V := hid (V3.out trivial hz)
      clear V1 V2 V3 hz
      go_wp2_with fail
      refine (lineOf_any _ _ _ _ _ _ O2.out Z1.out Z2.out).mono ?_
      rintro r w4 ⟨rfl, hb⟩
      have B4 := hid (BW.out.trans (hb.mono BW.out.size))
      clear hb
      go_wp2
      go_ret
      exact ⟨by rw [V.out]; rfl, B4.out⟩
end Go.Proofs.YtjddkofpfmjojaaDoor
/-
  l14Words and l14Call of the specification.
-/
namespace Go.Proofs.YtjddkofpfmjojaaDoor
open Go.RowKit
set_option linter.unusedVariables false
set_option maxHeartbeats 800000 in
theorem l14Words_any (w : World) : Calls Tryd.prog 18 #[] w fun e w' => e = .returned (.slice (some ⟨w.heap.size, 0, none⟩) 10 10) ∧ Bk w' w.heap.size 9 (stWs.map Value.string) ∧ Below w.heap.size w w' := by
  have B0 : Hid (Below w.heap.size w (w.alloc (.cells (stWs.map Value.string).toArray 9))) := below_new (Below.refl _ _)
  have K0 := hid (Bk.new w 9 (stWs.map Value.string))
  go_enter Tryd.func18, Tryd.ntmps18
  go_wp2
  go_ret
  exact ⟨rfl, K0.out, B0.out⟩
/-- The text of a call. -/
def clT (kd ak : Int) (ky vl lo hi : ByteArray) (mo : Int) (bk : Bool) : ByteArray := if clOk kd ak ky vl lo hi mo bk then joinW (clW kd ak ky vl lo hi mo bk) else ⟨#[]⟩
theorem clT_no {kd ak : Int} {ky vl lo hi : ByteArray} {mo : Int} {bk : Bool} (h : clOk kd ak ky vl lo hi mo bk = false) : clT kd ak ky vl lo hi mo bk = ⟨#[]⟩ := by unfold clT; rw [h]; rfl
theorem clT_yes {kd ak : Int} {ky vl lo hi : ByteArray} {mo : Int} {bk : Bool} (h : clOk kd ak ky vl lo hi mo bk = true) : clT kd ak ky vl lo hi mo bk = joinW (clW kd ak ky vl lo hi mo bk) := by unfold clT; rw [h]; rfl
theorem clOk_kd {kd ak : Int} {ky vl lo hi : ByteArray} {mo : Int} {bk : Bool} (h : clOk kd ak ky vl lo hi mo bk = true) : kd = 1 ∨ kd = 3 ∨ kd = 4 ∨ (kd = 2 ∧ (ak = 1 ∨ ak = 2 ∨ ak = 3 ∨ ak = 4)) := by
  unfold clOk at h
  by_cases h2 : kd = 2
  · rw [if_pos h2] at h
    rcases akOk_cases h with h | h | h | h
    · exact .inr (.inr (.inr ⟨h2, .inl h.1⟩))
    · exact .inr (.inr (.inr ⟨h2, .inr (.inl h.1)⟩))
    · exact .inr (.inr (.inr ⟨h2, .inr (.inr (.inl h.1))⟩))
    · exact .inr (.inr (.inr ⟨h2, .inr (.inr (.inr h.1))⟩))
  · rw [if_neg h2] at h
    by_cases h3 : kd = 1 ∨ kd = 3 ∨ kd = 4
    · rcases h3 with h3 | h3 | h3
      · exact .inl h3
      · exact .inr (.inl h3)
      · exact .inr (.inr (.inl h3))
    · rw [if_neg h3] at h; cases h
set_option maxHeartbeats 8000000 in
set_option maxRecDepth 20000 in
theorem l14Call_any (kd ak : Int) (ky vl lo hi : ByteArray) (mo : Int) (bk : Bool) (w : World) :
    Calls Tryd.prog 20 #[.agg #[.int .i64 kd, .int .i64 ak, .string ky, .string vl, .string lo, .string hi, .int .i64 mo, .bool bk]] w fun e w' => e = .returned (.string (clT kd ak ky vl lo hi mo bk)) ∧ Below w.heap.size w w' := by
  have B0 := hid (below_new (o := .cells #[.int .i64 kd, .int .i64 ak, .string ky, .string vl, .string lo, .string hi, .int .i64 mo, .bool bk] 37) (w := w) (Below.refl _ _))
  have K0 := hid (Bk.new w 37 [.int .i64 kd, .int .i64 ak, .string ky, .string vl, .string lo, .string hi, .int .i64 mo, .bool bk])
  have C1 := hid (fun w => specCallOk_any kd ak ky vl lo hi mo bk w)
  have CQ := hid (fun (s : ByteArray) (w : World) (hs : s.size ≤ 1048576) => specQuote_any s w hs)
  have CN := hid (fun (n : Int) (w : World) => specNumText_any n w)
  have z1 := wq_size ky
  have z2 := wq_size vl
  have z3 := wq_size lo
  have z4 := wq_size hi
  have z5 := numS_size mo
  have z6 : (⟨#[32]⟩ : ByteArray).size = 1 := rfl
  have z7 : (⟨#[112, 117, 116, 32]⟩ : ByteArray).size = 4 := rfl
  have z8 : (⟨#[103, 101, 116, 32]⟩ : ByteArray).size = 4 := rfl
  have z9 : (⟨#[100, 101, 108, 32]⟩ : ByteArray).size = 4 := rfl
  have z10 : (⟨#[115, 99, 97, 110, 32]⟩ : ByteArray).size = 5 := rfl
  have z11 : (⟨#[98, 97, 99, 107, 32]⟩ : ByteArray).size = 5 := rfl
  generalize hU : w.alloc (.cells #[.int .i64 kd, .int .i64 ak, .string ky, .string vl, .string lo, .string hi, .int .i64 mo, .bool bk] 37) = U at *
  have HU := hid hU
  skip
  clear hU
  cases hz : clOk kd ak ky vl lo hi mo bk with
  | false =>
    have HV := hid (clT_no hz)
    rw [hz] at C1
    clear hz z1 z2 z3 z4 z5 z6 z7 z8 z9 z10 z11
    go_enter Tryd.func20, Tryd.ntmps20
    go_wp2_with fail
    rw [HU.out]
    have c0 := K0.out.cell (j := 0) rfl
    have c1 := K0.out.cell (j := 1) rfl
    have c2 := K0.out.cell (j := 2) rfl
    have c3 := K0.out.cell (j := 3) rfl
    have c4 := K0.out.cell (j := 4) rfl
    have c5 := K0.out.cell (j := 5) rfl
    have c6 := K0.out.cell (j := 6) rfl
    have c7 := K0.out.cell (j := 7) rfl
    go_wp2_with fail
    refine (C1.out _).mono ?_
    rintro r w1 ⟨rfl, hb⟩
    have K1 := hid (K0.out.below hb)
    have B1 := hid (B0.out.trans (hb.mono B0.out.size))
    clear hb c0 c1 c2 c3 c4 c5 c6 c7 K0 B0
    have c0 := K1.out.cell (j := 0) rfl
    have c1 := K1.out.cell (j := 1) rfl
    have c2 := K1.out.cell (j := 2) rfl
    have c3 := K1.out.cell (j := 3) rfl
    have c4 := K1.out.cell (j := 4) rfl
    have c5 := K1.out.cell (j := 5) rfl
    have c6 := K1.out.cell (j := 6) rfl
    have c7 := K1.out.cell (j := 7) rfl
    go_wp2
    go_ret
    exact ⟨by rw [HV.out]; rfl, B1.out⟩
  | true =>
    have HV := hid (clT_yes hz)
    have HS := hid (clOk_sizes hz)
    rw [hz] at C1
    rcases clOk_kd hz with rfl | rfl | rfl | ⟨rfl, h⟩
    · clear hz z1 z2 z3 z4 z5 z6 z7 z8 z9 z10 z11
      go_enter Tryd.func20, Tryd.ntmps20
      go_wp2_with fail
      rw [HU.out]
      have c0 := K0.out.cell (j := 0) rfl
      have c1 := K0.out.cell (j := 1) rfl
      have c2 := K0.out.cell (j := 2) rfl
      have c3 := K0.out.cell (j := 3) rfl
      have c4 := K0.out.cell (j := 4) rfl
      have c5 := K0.out.cell (j := 5) rfl
      have c6 := K0.out.cell (j := 6) rfl
      have c7 := K0.out.cell (j := 7) rfl
      go_wp2_with fail
      refine (C1.out _).mono ?_
      rintro r w1 ⟨rfl, hb⟩
      have K1 := hid (K0.out.below hb)
      have B1 := hid (B0.out.trans (hb.mono B0.out.size))
      clear hb c0 c1 c2 c3 c4 c5 c6 c7 K0 B0
      have c0 := K1.out.cell (j := 0) rfl
      have c1 := K1.out.cell (j := 1) rfl
      have c2 := K1.out.cell (j := 2) rfl
      have c3 := K1.out.cell (j := 3) rfl
      have c4 := K1.out.cell (j := 4) rfl
      have c5 := K1.out.cell (j := 5) rfl
      have c6 := K1.out.cell (j := 6) rfl
      have c7 := K1.out.cell (j := 7) rfl
      go_wp2
      go_ret
      exact ⟨by rw [HV.out]; rfl, B1.out⟩
    · clear hz z1 z2 z3 z4 z5 z6 z7 z8 z9 z10 z11
      go_enter Tryd.func20, Tryd.ntmps20
      go_wp2_with fail
      rw [HU.out]
      have c0 := K0.out.cell (j := 0) rfl
      have c1 := K0.out.cell (j := 1) rfl
      have c2 := K0.out.cell (j := 2) rfl
      have c3 := K0.out.cell (j := 3) rfl
      have c4 := K0.out.cell (j := 4) rfl
      have c5 := K0.out.cell (j := 5) rfl
      have c6 := K0.out.cell (j := 6) rfl
      have c7 := K0.out.cell (j := 7) rfl
      go_wp2_with fail
      refine (C1.out _).mono ?_
      rintro r w1 ⟨rfl, hb⟩
      have K1 := hid (K0.out.below hb)
      have B1 := hid (B0.out.trans (hb.mono B0.out.size))
      clear hb c0 c1 c2 c3 c4 c5 c6 c7 K0 B0
      have c0 := K1.out.cell (j := 0) rfl
      have c1 := K1.out.cell (j := 1) rfl
      have c2 := K1.out.cell (j := 2) rfl
      have c3 := K1.out.cell (j := 3) rfl
      have c4 := K1.out.cell (j := 4) rfl
      have c5 := K1.out.cell (j := 5) rfl
      have c6 := K1.out.cell (j := 6) rfl
      have c7 := K1.out.cell (j := 7) rfl
      go_wp2
      go_ret
      exact ⟨by rw [HV.out]; rfl, B1.out⟩
    · clear hz z1 z2 z3 z4 z5 z6 z7 z8 z9 z10 z11
      go_enter Tryd.func20, Tryd.ntmps20
      go_wp2_with fail
      rw [HU.out]
      have c0 := K0.out.cell (j := 0) rfl
      have c1 := K0.out.cell (j := 1) rfl
      have c2 := K0.out.cell (j := 2) rfl
      have c3 := K0.out.cell (j := 3) rfl
      have c4 := K0.out.cell (j := 4) rfl
      have c5 := K0.out.cell (j := 5) rfl
      have c6 := K0.out.cell (j := 6) rfl
      have c7 := K0.out.cell (j := 7) rfl
      go_wp2_with fail
      refine (C1.out _).mono ?_
      rintro r w1 ⟨rfl, hb⟩
      have K1 := hid (K0.out.below hb)
      have B1 := hid (B0.out.trans (hb.mono B0.out.size))
      clear hb c0 c1 c2 c3 c4 c5 c6 c7 K0 B0
      have c0 := K1.out.cell (j := 0) rfl
      have c1 := K1.out.cell (j := 1) rfl
      have c2 := K1.out.cell (j := 2) rfl
      have c3 := K1.out.cell (j := 3) rfl
      have c4 := K1.out.cell (j := 4) rfl
      have c5 := K1.out.cell (j := 5) rfl
      have c6 := K1.out.cell (j := 6) rfl
      have c7 := K1.out.cell (j := 7) rfl
      go_wp2
      go_ret
      exact ⟨by rw [HV.out]; rfl, B1.out⟩
    · clear hz
      rcases h with rfl | rfl | rfl | rfl
      · have HV2 : Hid (clT 2 1 ky vl lo hi mo bk = ⟨#[103, 101, 116, 32]⟩ ++ qt ky) := by show _ = _; rw [HV.out]; rfl
        have q0 : ¬ (9223372036854775807 < (⟨#[103, 101, 116, 32]⟩ : ByteArray).size + (qt ky).size) := by omega
        clear z1 z2 z3 z4 z5 z6 z7 z8 z9 z10 z11
        go_enter Tryd.func20, Tryd.ntmps20
        go_wp2_with fail
        rw [HU.out]
        have c0 := K0.out.cell (j := 0) rfl
        have c1 := K0.out.cell (j := 1) rfl
        have c2 := K0.out.cell (j := 2) rfl
        have c3 := K0.out.cell (j := 3) rfl
        have c4 := K0.out.cell (j := 4) rfl
        have c5 := K0.out.cell (j := 5) rfl
        have c6 := K0.out.cell (j := 6) rfl
        have c7 := K0.out.cell (j := 7) rfl
        go_wp2_with fail
        refine (C1.out _).mono ?_
        rintro r w1 ⟨rfl, hb⟩
        have K1 := hid (K0.out.below hb)
        have B1 := hid (B0.out.trans (hb.mono B0.out.size))
        clear hb c0 c1 c2 c3 c4 c5 c6 c7 K0 B0
        have c0 := K1.out.cell (j := 0) rfl
        have c1 := K1.out.cell (j := 1) rfl
        have c2 := K1.out.cell (j := 2) rfl
        have c3 := K1.out.cell (j := 3) rfl
        have c4 := K1.out.cell (j := 4) rfl
        have c5 := K1.out.cell (j := 5) rfl
        have c6 := K1.out.cell (j := 6) rfl
        have c7 := K1.out.cell (j := 7) rfl
        have B2 := hid (B1.out.alloc B1.out.size (.cells #[.int .i64 1, .string ky, .string vl, .string lo, .string hi, .int .i64 mo, .bool bk] 35))
        have A2 := hid (Bk.new w1 35 [.int .i64 1, .string ky, .string vl, .string lo, .string hi, .int .i64 mo, .bool bk])
        have a0 := A2.out.cell (j := 0) rfl
        have a1 := A2.out.cell (j := 1) rfl
        go_wp2_with fail
        refine (CQ.out ky _ HS.out.1).mono ?_
        rintro r w2 ⟨rfl, hb⟩
        have B3 := hid (B2.out.trans (hb.mono B2.out.size))
        clear hb a0 a1 A2 B2
        go_wp2
        go_ret
        exact ⟨by rw [HV2.out]; rfl, B3.out⟩
      · have HV2 : Hid (clT 2 2 ky vl lo hi mo bk = ⟨#[112, 117, 116, 32]⟩ ++ qt ky ++ ⟨#[32]⟩ ++ qt vl) := by show _ = _; rw [HV.out]; rfl
        clear z6 z7 z8 z9 z10 z11
        go_enter Tryd.func20, Tryd.ntmps20
        go_wp2_with fail
        rw [HU.out]
        have c0 := K0.out.cell (j := 0) rfl
        have c1 := K0.out.cell (j := 1) rfl
        have c2 := K0.out.cell (j := 2) rfl
        have c3 := K0.out.cell (j := 3) rfl
        have c4 := K0.out.cell (j := 4) rfl
        have c5 := K0.out.cell (j := 5) rfl
        have c6 := K0.out.cell (j := 6) rfl
        have c7 := K0.out.cell (j := 7) rfl
        go_wp2_with fail
        refine (C1.out _).mono ?_
        rintro r w1 ⟨rfl, hb⟩
        have K1 := hid (K0.out.below hb)
        have B1 := hid (B0.out.trans (hb.mono B0.out.size))
        clear hb c0 c1 c2 c3 c4 c5 c6 c7 K0 B0
        have c0 := K1.out.cell (j := 0) rfl
        have c1 := K1.out.cell (j := 1) rfl
        have c2 := K1.out.cell (j := 2) rfl
        have c3 := K1.out.cell (j := 3) rfl
        have c4 := K1.out.cell (j := 4) rfl
        have c5 := K1.out.cell (j := 5) rfl
        have c6 := K1.out.cell (j := 6) rfl
        have c7 := K1.out.cell (j := 7) rfl
        have B2 := hid (B1.out.alloc B1.out.size (.cells #[.int .i64 2, .string ky, .string vl, .string lo, .string hi, .int .i64 mo, .bool bk] 35))
        have A0 := hid (Bk.new w1 35 [.int .i64 2, .string ky, .string vl, .string lo, .string hi, .int .i64 mo, .bool bk])
        have a0 := A0.out.cell (j := 0) rfl
        have a5 := A0.out.cell (j := 6) rfl
        clear B1 K1
        have B0 := B2
        clear B2
        go_wp2_with fail
        generalize w1.alloc (.cells #[.int .i64 2, .string ky, .string vl, .string lo, .string hi, .int .i64 mo, .bool bk] 35) = V0 at *
        generalize w1.heap.size = gA at *
        clear a0 a5 c0 c1 c2 c3 c4 c5 c6 c7
        refine wp_region_noPanic ?_
        refine wp_region_held_drew (S := fun v => v.cell? ⟨gA, 1, none⟩ = some (.string ky) ∧ v.cell? ⟨gA, 2, none⟩ = some (.string vl) ∧ v.cell? ⟨gA, 3, none⟩ = some (.string lo) ∧ v.cell? ⟨gA, 4, none⟩ = some (.string hi) ∧ v.cell? ⟨gA, 5, none⟩ = some (.int .i64 mo)) (by kernel_rfl) (⟨(A0.out.below (below_drew _)).cell (j := 1) rfl, (A0.out.below (below_drew _)).cell (j := 2) rfl, (A0.out.below (below_drew _)).cell (j := 3) rfl, (A0.out.below (below_drew _)).cell (j := 4) rfl, (A0.out.below (below_drew _)).cell (j := 5) rfl⟩) (fun hHeld => ?_)
        simp only [List.size_toArray, List.length_cons, List.length_nil, Array.replicate_succ, Array.replicate_zero, Nat.reduceAdd, List.push_toArray, List.nil_append, List.cons_append]
        have BD := hid (B0.out.trans ((below_drew V0).mono B0.out.size))
        have AD := hid (A0.out.below (below_drew _))
        clear B0 A0
        generalize V0.drew = v0 at *
        have B0 := BD
        have A0 := AD
        clear BD AD
        refine wpAnyH_take (i := 0) (v := (.pointer (some ⟨gA, 1, none⟩))) rfl (by kernel_rfl) (by kernel_rfl) (by kernel_rfl) (fun _ _ _ h => h) (Or.inl ⟨by rfl, ?_⟩) (by assumption) ?_
        · intro w hSw
          (try dsimp only at hSw)
          go_simp
        try simp only [List.getElem_toArray]
        try simp only [List.getElem_cons_succ]
        try simp only [List.getElem_cons_zero]
        try simp only [Act.put]
        try simp only [List.setIfInBounds_toArray]
        try simp only [List.set_cons_succ]
        try simp only [List.set_cons_zero]
        refine wpAnyH_take (i := 1) (v := (.string ky)) rfl (by kernel_rfl) (by kernel_rfl) (by kernel_rfl) (fun _ _ _ h => h) (Or.inl ⟨by rfl, ?_⟩) (by assumption) ?_
        · intro w hSw
          (try dsimp only at hSw)
          go_simp
        try simp only [List.getElem_toArray]
        try simp only [List.getElem_cons_succ]
        try simp only [List.getElem_cons_zero]
        try simp only [Act.put]
        try simp only [List.setIfInBounds_toArray]
        try simp only [List.set_cons_succ]
        try simp only [List.set_cons_zero]
        refine wpAnyH_take (i := 5) (v := (.pointer (some ⟨gA, 2, none⟩))) rfl (by kernel_rfl) (by kernel_rfl) (by kernel_rfl) (fun _ _ _ h => h) (Or.inl ⟨by rfl, ?_⟩) (by assumption) ?_
        · intro w hSw
          (try dsimp only at hSw)
          go_simp
        try simp only [List.getElem_toArray]
        try simp only [List.getElem_cons_succ]
        try simp only [List.getElem_cons_zero]
        try simp only [Act.put]
        try simp only [List.setIfInBounds_toArray]
        try simp only [List.set_cons_succ]
        try simp only [List.set_cons_zero]
        refine wpAnyH_take (i := 6) (v := (.string vl)) rfl (by kernel_rfl) (by kernel_rfl) (by kernel_rfl) (fun _ _ _ h => h) (Or.inl ⟨by rfl, ?_⟩) (by assumption) ?_
        · intro w hSw
          (try dsimp only at hSw)
          go_simp
        try simp only [List.getElem_toArray]
        try simp only [List.getElem_cons_succ]
        try simp only [List.getElem_cons_zero]
        try simp only [Act.put]
        try simp only [List.setIfInBounds_toArray]
        try simp only [List.set_cons_succ]
        try simp only [List.set_cons_zero]
        refine wpAnyH_ready (rs := [2]) (by kernel_rfl) (by simp) ?_
        refine AllReadyH.cons rfl (fun K1 hK => ?_) AllReadyH.nil
        go_simp
        refine (CQ.out ky _ HS.out.1).mono ?_
        rintro r v1 ⟨rfl, hb⟩
        go_wp2_with fail
        have A1 := hid (A0.out.below hb)
        have B1 := hid (B0.out.trans (hb.mono B0.out.size))
        clear hb A0 B0
        refine hK.out _ _ ?_ (fun hHeld => ?_)
        · exact ⟨A1.out.cell (j := 1) rfl, A1.out.cell (j := 2) rfl, A1.out.cell (j := 3) rfl, A1.out.cell (j := 4) rfl, A1.out.cell (j := 5) rfl⟩
        clear hK K1
        try simp only [List.getElem_toArray]
        try simp only [List.getElem_cons_succ]
        try simp only [List.getElem_cons_zero]
        try simp only [Act.put]
        try simp only [List.setIfInBounds_toArray]
        try simp only [List.set_cons_succ]
        try simp only [List.set_cons_zero]
        refine wpAnyH_take (i := 3) (v := (.string (⟨#[112, 117, 116, 32]⟩ ++ qt ky))) rfl (by kernel_rfl) (by kernel_rfl) (by kernel_rfl) (fun _ _ _ h => h) (Or.inl ⟨by rfl, ?_⟩) (by assumption) ?_
        · intro w hSw
          (try dsimp only at hSw)
          go_simp
          try omega
        try simp only [List.getElem_toArray]
        try simp only [List.getElem_cons_succ]
        try simp only [List.getElem_cons_zero]
        try simp only [Act.put]
        try simp only [List.setIfInBounds_toArray]
        try simp only [List.set_cons_succ]
        try simp only [List.set_cons_zero]
        refine wpAnyH_take (i := 4) (v := (.string (⟨#[112, 117, 116, 32]⟩ ++ qt ky ++ ⟨#[32]⟩))) rfl (by kernel_rfl) (by kernel_rfl) (by kernel_rfl) (fun _ _ _ h => h) (Or.inl ⟨by rfl, ?_⟩) (by assumption) ?_
        · intro w hSw
          (try dsimp only at hSw)
          go_simp
          try omega
        try simp only [List.getElem_toArray]
        try simp only [List.getElem_cons_succ]
        try simp only [List.getElem_cons_zero]
        try simp only [Act.put]
        try simp only [List.setIfInBounds_toArray]
        try simp only [List.set_cons_succ]
        try simp only [List.set_cons_zero]
        refine wpAnyH_ready (rs := [7]) (by kernel_rfl) (by simp) ?_
        refine AllReadyH.cons rfl (fun K1 hK => ?_) AllReadyH.nil
        go_simp
        refine (CQ.out vl _ HS.out.2.1).mono ?_
        rintro r v2 ⟨rfl, hb⟩
        go_wp2_with fail
        have A2 := hid (A1.out.below hb)
        have B2 := hid (B1.out.trans (hb.mono B1.out.size))
        clear hb A1 B1
        refine hK.out _ _ ?_ (fun hHeld => ?_)
        · exact ⟨A2.out.cell (j := 1) rfl, A2.out.cell (j := 2) rfl, A2.out.cell (j := 3) rfl, A2.out.cell (j := 4) rfl, A2.out.cell (j := 5) rfl⟩
        clear hK K1
        try simp only [List.getElem_toArray]
        try simp only [List.getElem_cons_succ]
        try simp only [List.getElem_cons_zero]
        try simp only [Act.put]
        try simp only [List.setIfInBounds_toArray]
        try simp only [List.set_cons_succ]
        try simp only [List.set_cons_zero]
        refine wpAnyH_take (i := 8) (v := (.string (⟨#[112, 117, 116, 32]⟩ ++ qt ky ++ ⟨#[32]⟩ ++ qt vl))) rfl (by kernel_rfl) (by kernel_rfl) (by kernel_rfl) (fun _ _ _ h => h) (Or.inl ⟨by rfl, ?_⟩) (by assumption) ?_
        · intro w hSw
          (try dsimp only at hSw)
          go_simp
          try omega
        try simp only [List.getElem_toArray]
        try simp only [List.getElem_cons_succ]
        try simp only [List.getElem_cons_zero]
        try simp only [Act.put]
        try simp only [List.setIfInBounds_toArray]
        try simp only [List.set_cons_succ]
        try simp only [List.set_cons_zero]
        refine wpAnyH_take (i := 9) (v := (.string (⟨#[112, 117, 116, 32]⟩ ++ qt ky ++ ⟨#[32]⟩ ++ qt vl))) rfl (by kernel_rfl) (by kernel_rfl) (by kernel_rfl) (fun _ _ _ h => h) (Or.inl ⟨by rfl, ?_⟩) (by assumption) ?_
        · intro w hSw
          (try dsimp only at hSw)
          go_simp
          try omega
        try simp only [List.getElem_toArray]
        try simp only [List.getElem_cons_succ]
        try simp only [List.getElem_cons_zero]
        try simp only [Act.put]
        try simp only [List.setIfInBounds_toArray]
        try simp only [List.set_cons_succ]
        try simp only [List.set_cons_zero]
        refine wpAnyH_done (by kernel_rfl) ?_ _
        refine NoPanic.normal ?_
        go_wp2
        go_ret
        exact ⟨by rw [HV2.out]; rfl, B2.out⟩
      · have HV2 : Hid (clT 2 3 ky vl lo hi mo bk = ⟨#[100, 101, 108, 32]⟩ ++ qt ky) := by show _ = _; rw [HV.out]; rfl
        have q0 : ¬ (9223372036854775807 < (⟨#[100, 101, 108, 32]⟩ : ByteArray).size + (qt ky).size) := by omega
        clear z1 z2 z3 z4 z5 z6 z7 z8 z9 z10 z11
        go_enter Tryd.func20, Tryd.ntmps20
        go_wp2_with fail
        rw [HU.out]
        have c0 := K0.out.cell (j := 0) rfl
        have c1 := K0.out.cell (j := 1) rfl
        have c2 := K0.out.cell (j := 2) rfl
        have c3 := K0.out.cell (j := 3) rfl
        have c4 := K0.out.cell (j := 4) rfl
        have c5 := K0.out.cell (j := 5) rfl
        have c6 := K0.out.cell (j := 6) rfl
        have c7 := K0.out.cell (j := 7) rfl
        go_wp2_with fail
        refine (C1.out _).mono ?_
        rintro r w1 ⟨rfl, hb⟩
        have K1 := hid (K0.out.below hb)
        have B1 := hid (B0.out.trans (hb.mono B0.out.size))
        clear hb c0 c1 c2 c3 c4 c5 c6 c7 K0 B0
        have c0 := K1.out.cell (j := 0) rfl
        have c1 := K1.out.cell (j := 1) rfl
        have c2 := K1.out.cell (j := 2) rfl
        have c3 := K1.out.cell (j := 3) rfl
        have c4 := K1.out.cell (j := 4) rfl
        have c5 := K1.out.cell (j := 5) rfl
        have c6 := K1.out.cell (j := 6) rfl
        have c7 := K1.out.cell (j := 7) rfl
        have B2 := hid (B1.out.alloc B1.out.size (.cells #[.int .i64 3, .string ky, .string vl, .string lo, .string hi, .int .i64 mo, .bool bk] 35))
        have A2 := hid (Bk.new w1 35 [.int .i64 3, .string ky, .string vl, .string lo, .string hi, .int .i64 mo, .bool bk])
        have a0 := A2.out.cell (j := 0) rfl
        have a1 := A2.out.cell (j := 1) rfl
        go_wp2_with fail
        refine (CQ.out ky _ HS.out.1).mono ?_
        rintro r w2 ⟨rfl, hb⟩
        have B3 := hid (B2.out.trans (hb.mono B2.out.size))
        clear hb a0 a1 A2 B2
        go_wp2
        go_ret
        exact ⟨by rw [HV2.out]; rfl, B3.out⟩
      · cases bk with
        | false =>
          · skip
            have HV2 : Hid (clT 2 4 ky vl lo hi mo false = ⟨#[115, 99, 97, 110, 32]⟩ ++ qt lo ++ ⟨#[32]⟩ ++ qt hi ++ ⟨#[32]⟩ ++ numS mo) := by show _ = _; rw [HV.out]; rfl
            clear z6 z7 z8 z9 z10 z11
            go_enter Tryd.func20, Tryd.ntmps20
            go_wp2_with fail
            rw [HU.out]
            have c0 := K0.out.cell (j := 0) rfl
            have c1 := K0.out.cell (j := 1) rfl
            have c2 := K0.out.cell (j := 2) rfl
            have c3 := K0.out.cell (j := 3) rfl
            have c4 := K0.out.cell (j := 4) rfl
            have c5 := K0.out.cell (j := 5) rfl
            have c6 := K0.out.cell (j := 6) rfl
            have c7 := K0.out.cell (j := 7) rfl
            go_wp2_with fail
            refine (C1.out _).mono ?_
            rintro r w1 ⟨rfl, hb⟩
            have K1 := hid (K0.out.below hb)
            have B1 := hid (B0.out.trans (hb.mono B0.out.size))
            clear hb c0 c1 c2 c3 c4 c5 c6 c7 K0 B0
            have c0 := K1.out.cell (j := 0) rfl
            have c1 := K1.out.cell (j := 1) rfl
            have c2 := K1.out.cell (j := 2) rfl
            have c3 := K1.out.cell (j := 3) rfl
            have c4 := K1.out.cell (j := 4) rfl
            have c5 := K1.out.cell (j := 5) rfl
            have c6 := K1.out.cell (j := 6) rfl
            have c7 := K1.out.cell (j := 7) rfl
            have B2 := hid (B1.out.alloc B1.out.size (.cells #[.int .i64 4, .string ky, .string vl, .string lo, .string hi, .int .i64 mo, .bool false] 35))
            have A0 := hid (Bk.new w1 35 [.int .i64 4, .string ky, .string vl, .string lo, .string hi, .int .i64 mo, .bool false])
            have a0 := A0.out.cell (j := 0) rfl
            have a5 := A0.out.cell (j := 6) rfl
            clear B1 K1
            have B0 := B2
            clear B2
            go_wp2_with fail
            generalize w1.alloc (.cells #[.int .i64 4, .string ky, .string vl, .string lo, .string hi, .int .i64 mo, .bool false] 35) = V0 at *
            generalize w1.heap.size = gA at *
            clear a0 a5 c0 c1 c2 c3 c4 c5 c6 c7
            refine wp_region_noPanic ?_
            refine wp_region_held_drew (S := fun v => v.cell? ⟨gA, 1, none⟩ = some (.string ky) ∧ v.cell? ⟨gA, 2, none⟩ = some (.string vl) ∧ v.cell? ⟨gA, 3, none⟩ = some (.string lo) ∧ v.cell? ⟨gA, 4, none⟩ = some (.string hi) ∧ v.cell? ⟨gA, 5, none⟩ = some (.int .i64 mo)) (by kernel_rfl) (⟨(A0.out.below (below_drew _)).cell (j := 1) rfl, (A0.out.below (below_drew _)).cell (j := 2) rfl, (A0.out.below (below_drew _)).cell (j := 3) rfl, (A0.out.below (below_drew _)).cell (j := 4) rfl, (A0.out.below (below_drew _)).cell (j := 5) rfl⟩) (fun hHeld => ?_)
            simp only [List.size_toArray, List.length_cons, List.length_nil, Array.replicate_succ, Array.replicate_zero, Nat.reduceAdd, List.push_toArray, List.nil_append, List.cons_append]
            have BD := hid (B0.out.trans ((below_drew V0).mono B0.out.size))
            have AD := hid (A0.out.below (below_drew _))
            clear B0 A0
            generalize V0.drew = v0 at *
            have B0 := BD
            have A0 := AD
            clear BD AD
            refine wpAnyH_take (i := 0) (v := (.string ⟨#[115, 99, 97, 110, 32]⟩)) rfl (by kernel_rfl) (by kernel_rfl) (by kernel_rfl) (fun _ _ _ h => h) (Or.inl ⟨by rfl, ?_⟩) (by assumption) ?_
            · intro w hSw
              (try dsimp only at hSw)
              go_simp
            try simp only [List.getElem_toArray]
            try simp only [List.getElem_cons_succ]
            try simp only [List.getElem_cons_zero]
            try simp only [Act.put]
            try simp only [List.setIfInBounds_toArray]
            try simp only [List.set_cons_succ]
            try simp only [List.set_cons_zero]
            refine wpAnyH_take (i := 1) (v := (.pointer (some ⟨gA, 3, none⟩))) rfl (by kernel_rfl) (by kernel_rfl) (by kernel_rfl) (fun _ _ _ h => h) (Or.inl ⟨by rfl, ?_⟩) (by assumption) ?_
            · intro w hSw
              (try dsimp only at hSw)
              go_simp
            try simp only [List.getElem_toArray]
            try simp only [List.getElem_cons_succ]
            try simp only [List.getElem_cons_zero]
            try simp only [Act.put]
            try simp only [List.setIfInBounds_toArray]
            try simp only [List.set_cons_succ]
            try simp only [List.set_cons_zero]
            refine wpAnyH_take (i := 2) (v := (.pointer (some ⟨gA, 3, none⟩))) rfl (by kernel_rfl) (by kernel_rfl) (by kernel_rfl) (fun _ _ _ h => h) (Or.inl ⟨by rfl, ?_⟩) (by assumption) ?_
            · intro w hSw
              (try dsimp only at hSw)
              go_simp
            try simp only [List.getElem_toArray]
            try simp only [List.getElem_cons_succ]
            try simp only [List.getElem_cons_zero]
            try simp only [Act.put]
            try simp only [List.setIfInBounds_toArray]
            try simp only [List.set_cons_succ]
            try simp only [List.set_cons_zero]
            refine wpAnyH_take (i := 3) (v := (.string lo)) rfl (by kernel_rfl) (by kernel_rfl) (by kernel_rfl) (fun _ _ _ h => h) (Or.inl ⟨by rfl, ?_⟩) (by assumption) ?_
            · intro w hSw
              (try dsimp only at hSw)
              go_simp
            try simp only [List.getElem_toArray]
            try simp only [List.getElem_cons_succ]
            try simp only [List.getElem_cons_zero]
            try simp only [Act.put]
            try simp only [List.setIfInBounds_toArray]
            try simp only [List.set_cons_succ]
            try simp only [List.set_cons_zero]
            refine wpAnyH_take (i := 7) (v := (.pointer (some ⟨gA, 3, none⟩))) rfl (by kernel_rfl) (by kernel_rfl) (by kernel_rfl) (fun _ _ _ h => h) (Or.inl ⟨by rfl, ?_⟩) (by assumption) ?_
            · intro w hSw
              (try dsimp only at hSw)
              go_simp
            try simp only [List.getElem_toArray]
            try simp only [List.getElem_cons_succ]
            try simp only [List.getElem_cons_zero]
            try simp only [Act.put]
            try simp only [List.setIfInBounds_toArray]
            try simp only [List.set_cons_succ]
            try simp only [List.set_cons_zero]
            refine wpAnyH_take (i := 8) (v := (.pointer (some ⟨gA, 4, none⟩))) rfl (by kernel_rfl) (by kernel_rfl) (by kernel_rfl) (fun _ _ _ h => h) (Or.inl ⟨by rfl, ?_⟩) (by assumption) ?_
            · intro w hSw
              (try dsimp only at hSw)
              go_simp
            try simp only [List.getElem_toArray]
            try simp only [List.getElem_cons_succ]
            try simp only [List.getElem_cons_zero]
            try simp only [Act.put]
            try simp only [List.setIfInBounds_toArray]
            try simp only [List.set_cons_succ]
            try simp only [List.set_cons_zero]
            refine wpAnyH_take (i := 9) (v := (.string hi)) rfl (by kernel_rfl) (by kernel_rfl) (by kernel_rfl) (fun _ _ _ h => h) (Or.inl ⟨by rfl, ?_⟩) (by assumption) ?_
            · intro w hSw
              (try dsimp only at hSw)
              go_simp
            try simp only [List.getElem_toArray]
            try simp only [List.getElem_cons_succ]
            try simp only [List.getElem_cons_zero]
            try simp only [Act.put]
            try simp only [List.setIfInBounds_toArray]
            try simp only [List.set_cons_succ]
            try simp only [List.set_cons_zero]
            refine wpAnyH_take (i := 13) (v := (.pointer (some ⟨gA, 5, none⟩))) rfl (by kernel_rfl) (by kernel_rfl) (by kernel_rfl) (fun _ _ _ h => h) (Or.inl ⟨by rfl, ?_⟩) (by assumption) ?_
            · intro w hSw
              (try dsimp only at hSw)
              go_simp
            try simp only [List.getElem_toArray]
            try simp only [List.getElem_cons_succ]
            try simp only [List.getElem_cons_zero]
            try simp only [Act.put]
            try simp only [List.setIfInBounds_toArray]
            try simp only [List.set_cons_succ]
            try simp only [List.set_cons_zero]
            refine wpAnyH_take (i := 14) (v := (.int .i64 mo)) rfl (by kernel_rfl) (by kernel_rfl) (by kernel_rfl) (fun _ _ _ h => h) (Or.inl ⟨by rfl, ?_⟩) (by assumption) ?_
            · intro w hSw
              (try dsimp only at hSw)
              go_simp
            try simp only [List.getElem_toArray]
            try simp only [List.getElem_cons_succ]
            try simp only [List.getElem_cons_zero]
            try simp only [Act.put]
            try simp only [List.setIfInBounds_toArray]
            try simp only [List.set_cons_succ]
            try simp only [List.set_cons_zero]
            refine wpAnyH_ready (rs := [4]) (by kernel_rfl) (by simp) ?_
            refine AllReadyH.cons rfl (fun K1 hK => ?_) AllReadyH.nil
            go_simp
            refine (CQ.out lo _ HS.out.2.2.1).mono ?_
            rintro r v1 ⟨rfl, hb⟩
            go_wp2_with fail
            have A1 := hid (A0.out.below hb)
            have B1 := hid (B0.out.trans (hb.mono B0.out.size))
            clear hb A0 B0
            refine hK.out _ _ ?_ (fun hHeld => ?_)
            · exact ⟨A1.out.cell (j := 1) rfl, A1.out.cell (j := 2) rfl, A1.out.cell (j := 3) rfl, A1.out.cell (j := 4) rfl, A1.out.cell (j := 5) rfl⟩
            clear hK K1
            try simp only [List.getElem_toArray]
            try simp only [List.getElem_cons_succ]
            try simp only [List.getElem_cons_zero]
            try simp only [Act.put]
            try simp only [List.setIfInBounds_toArray]
            try simp only [List.set_cons_succ]
            try simp only [List.set_cons_zero]
            refine wpAnyH_take (i := 5) (v := (.string (⟨#[115, 99, 97, 110, 32]⟩ ++ qt lo))) rfl (by kernel_rfl) (by kernel_rfl) (by kernel_rfl) (fun _ _ _ h => h) (Or.inl ⟨by rfl, ?_⟩) (by assumption) ?_
            · intro w hSw
              (try dsimp only at hSw)
              go_simp
              try omega
            try simp only [List.getElem_toArray]
            try simp only [List.getElem_cons_succ]
            try simp only [List.getElem_cons_zero]
            try simp only [Act.put]
            try simp only [List.setIfInBounds_toArray]
            try simp only [List.set_cons_succ]
            try simp only [List.set_cons_zero]
            refine wpAnyH_take (i := 6) (v := (.string (⟨#[115, 99, 97, 110, 32]⟩ ++ qt lo ++ ⟨#[32]⟩))) rfl (by kernel_rfl) (by kernel_rfl) (by kernel_rfl) (fun _ _ _ h => h) (Or.inl ⟨by rfl, ?_⟩) (by assumption) ?_
            · intro w hSw
              (try dsimp only at hSw)
              go_simp
              try omega
            try simp only [List.getElem_toArray]
            try simp only [List.getElem_cons_succ]
            try simp only [List.getElem_cons_zero]
            try simp only [Act.put]
            try simp only [List.setIfInBounds_toArray]
            try simp only [List.set_cons_succ]
            try simp only [List.set_cons_zero]
            refine wpAnyH_ready (rs := [10]) (by kernel_rfl) (by simp) ?_
            refine AllReadyH.cons rfl (fun K1 hK => ?_) AllReadyH.nil
            go_simp
            refine (CQ.out hi _ HS.out.2.2.2).mono ?_
            rintro r v2 ⟨rfl, hb⟩
            go_wp2_with fail
            have A2 := hid (A1.out.below hb)
            have B2 := hid (B1.out.trans (hb.mono B1.out.size))
            clear hb A1 B1
            refine hK.out _ _ ?_ (fun hHeld => ?_)
            · exact ⟨A2.out.cell (j := 1) rfl, A2.out.cell (j := 2) rfl, A2.out.cell (j := 3) rfl, A2.out.cell (j := 4) rfl, A2.out.cell (j := 5) rfl⟩
            clear hK K1
            try simp only [List.getElem_toArray]
            try simp only [List.getElem_cons_succ]
            try simp only [List.getElem_cons_zero]
            try simp only [Act.put]
            try simp only [List.setIfInBounds_toArray]
            try simp only [List.set_cons_succ]
            try simp only [List.set_cons_zero]
            refine wpAnyH_take (i := 11) (v := (.string (⟨#[115, 99, 97, 110, 32]⟩ ++ qt lo ++ ⟨#[32]⟩ ++ qt hi))) rfl (by kernel_rfl) (by kernel_rfl) (by kernel_rfl) (fun _ _ _ h => h) (Or.inl ⟨by rfl, ?_⟩) (by assumption) ?_
            · intro w hSw
              (try dsimp only at hSw)
              go_simp
              try omega
            try simp only [List.getElem_toArray]
            try simp only [List.getElem_cons_succ]
            try simp only [List.getElem_cons_zero]
            try simp only [Act.put]
            try simp only [List.setIfInBounds_toArray]
            try simp only [List.set_cons_succ]
            try simp only [List.set_cons_zero]
            refine wpAnyH_take (i := 12) (v := (.string (⟨#[115, 99, 97, 110, 32]⟩ ++ qt lo ++ ⟨#[32]⟩ ++ qt hi ++ ⟨#[32]⟩))) rfl (by kernel_rfl) (by kernel_rfl) (by kernel_rfl) (fun _ _ _ h => h) (Or.inl ⟨by rfl, ?_⟩) (by assumption) ?_
            · intro w hSw
              (try dsimp only at hSw)
              go_simp
              try omega
            try simp only [List.getElem_toArray]
            try simp only [List.getElem_cons_succ]
            try simp only [List.getElem_cons_zero]
            try simp only [Act.put]
            try simp only [List.setIfInBounds_toArray]
            try simp only [List.set_cons_succ]
            try simp only [List.set_cons_zero]
            refine wpAnyH_ready (rs := [15]) (by kernel_rfl) (by simp) ?_
            refine AllReadyH.cons rfl (fun K1 hK => ?_) AllReadyH.nil
            go_simp
            refine (CN.out mo _).mono ?_
            rintro r v3 ⟨rfl, hb⟩
            go_wp2_with fail
            have A3 := hid (A2.out.below hb)
            have B3 := hid (B2.out.trans (hb.mono B2.out.size))
            clear hb A2 B2
            refine hK.out _ _ ?_ (fun hHeld => ?_)
            · exact ⟨A3.out.cell (j := 1) rfl, A3.out.cell (j := 2) rfl, A3.out.cell (j := 3) rfl, A3.out.cell (j := 4) rfl, A3.out.cell (j := 5) rfl⟩
            clear hK K1
            try simp only [List.getElem_toArray]
            try simp only [List.getElem_cons_succ]
            try simp only [List.getElem_cons_zero]
            try simp only [Act.put]
            try simp only [List.setIfInBounds_toArray]
            try simp only [List.set_cons_succ]
            try simp only [List.set_cons_zero]
            refine wpAnyH_take (i := 16) (v := (.string (⟨#[115, 99, 97, 110, 32]⟩ ++ qt lo ++ ⟨#[32]⟩ ++ qt hi ++ ⟨#[32]⟩ ++ numS mo))) rfl (by kernel_rfl) (by kernel_rfl) (by kernel_rfl) (fun _ _ _ h => h) (Or.inl ⟨by rfl, ?_⟩) (by assumption) ?_
            · intro w hSw
              (try dsimp only at hSw)
              go_simp
              try omega
            try simp only [List.getElem_toArray]
            try simp only [List.getElem_cons_succ]
            try simp only [List.getElem_cons_zero]
            try simp only [Act.put]
            try simp only [List.setIfInBounds_toArray]
            try simp only [List.set_cons_succ]
            try simp only [List.set_cons_zero]
            refine wpAnyH_take (i := 17) (v := (.string (⟨#[115, 99, 97, 110, 32]⟩ ++ qt lo ++ ⟨#[32]⟩ ++ qt hi ++ ⟨#[32]⟩ ++ numS mo))) rfl (by kernel_rfl) (by kernel_rfl) (by kernel_rfl) (fun _ _ _ h => h) (Or.inl ⟨by rfl, ?_⟩) (by assumption) ?_
            · intro w hSw
              (try dsimp only at hSw)
              go_simp
              try omega
            try simp only [List.getElem_toArray]
            try simp only [List.getElem_cons_succ]
            try simp only [List.getElem_cons_zero]
            try simp only [Act.put]
            try simp only [List.setIfInBounds_toArray]
            try simp only [List.set_cons_succ]
            try simp only [List.set_cons_zero]
            refine wpAnyH_done (by kernel_rfl) ?_ _
            refine NoPanic.normal ?_
            go_wp2
            go_ret
            exact ⟨by rw [HV2.out]; rfl, B3.out⟩
        | true =>
          · skip
            have HV2 : Hid (clT 2 4 ky vl lo hi mo true = ⟨#[98, 97, 99, 107, 32]⟩ ++ qt lo ++ ⟨#[32]⟩ ++ qt hi ++ ⟨#[32]⟩ ++ numS mo) := by show _ = _; rw [HV.out]; rfl
            clear z6 z7 z8 z9 z10 z11
            go_enter Tryd.func20, Tryd.ntmps20
            go_wp2_with fail
            rw [HU.out]
            have c0 := K0.out.cell (j := 0) rfl
            have c1 := K0.out.cell (j := 1) rfl
            have c2 := K0.out.cell (j := 2) rfl
            have c3 := K0.out.cell (j := 3) rfl
            have c4 := K0.out.cell (j := 4) rfl
            have c5 := K0.out.cell (j := 5) rfl
            have c6 := K0.out.cell (j := 6) rfl
            have c7 := K0.out.cell (j := 7) rfl
            go_wp2_with fail
            refine (C1.out _).mono ?_
            rintro r w1 ⟨rfl, hb⟩
            have K1 := hid (K0.out.below hb)
            have B1 := hid (B0.out.trans (hb.mono B0.out.size))
            clear hb c0 c1 c2 c3 c4 c5 c6 c7 K0 B0
            have c0 := K1.out.cell (j := 0) rfl
            have c1 := K1.out.cell (j := 1) rfl
            have c2 := K1.out.cell (j := 2) rfl
            have c3 := K1.out.cell (j := 3) rfl
            have c4 := K1.out.cell (j := 4) rfl
            have c5 := K1.out.cell (j := 5) rfl
            have c6 := K1.out.cell (j := 6) rfl
            have c7 := K1.out.cell (j := 7) rfl
            have B2 := hid (B1.out.alloc B1.out.size (.cells #[.int .i64 4, .string ky, .string vl, .string lo, .string hi, .int .i64 mo, .bool true] 35))
            have A0 := hid (Bk.new w1 35 [.int .i64 4, .string ky, .string vl, .string lo, .string hi, .int .i64 mo, .bool true])
            have a0 := A0.out.cell (j := 0) rfl
            have a5 := A0.out.cell (j := 6) rfl
            clear B1 K1
            have B0 := B2
            clear B2
            go_wp2_with fail
            generalize w1.alloc (.cells #[.int .i64 4, .string ky, .string vl, .string lo, .string hi, .int .i64 mo, .bool true] 35) = V0 at *
            generalize w1.heap.size = gA at *
            clear a0 a5 c0 c1 c2 c3 c4 c5 c6 c7
            refine wp_region_noPanic ?_
            refine wp_region_held_drew (S := fun v => v.cell? ⟨gA, 1, none⟩ = some (.string ky) ∧ v.cell? ⟨gA, 2, none⟩ = some (.string vl) ∧ v.cell? ⟨gA, 3, none⟩ = some (.string lo) ∧ v.cell? ⟨gA, 4, none⟩ = some (.string hi) ∧ v.cell? ⟨gA, 5, none⟩ = some (.int .i64 mo)) (by kernel_rfl) (⟨(A0.out.below (below_drew _)).cell (j := 1) rfl, (A0.out.below (below_drew _)).cell (j := 2) rfl, (A0.out.below (below_drew _)).cell (j := 3) rfl, (A0.out.below (below_drew _)).cell (j := 4) rfl, (A0.out.below (below_drew _)).cell (j := 5) rfl⟩) (fun hHeld => ?_)
            simp only [List.size_toArray, List.length_cons, List.length_nil, Array.replicate_succ, Array.replicate_zero, Nat.reduceAdd, List.push_toArray, List.nil_append, List.cons_append]
            have BD := hid (B0.out.trans ((below_drew V0).mono B0.out.size))
            have AD := hid (A0.out.below (below_drew _))
            clear B0 A0
            generalize V0.drew = v0 at *
            have B0 := BD
            have A0 := AD
            clear BD AD
            refine wpAnyH_take (i := 0) (v := (.string ⟨#[98, 97, 99, 107, 32]⟩)) rfl (by kernel_rfl) (by kernel_rfl) (by kernel_rfl) (fun _ _ _ h => h) (Or.inl ⟨by rfl, ?_⟩) (by assumption) ?_
            · intro w hSw
              (try dsimp only at hSw)
              go_simp
            try simp only [List.getElem_toArray]
            try simp only [List.getElem_cons_succ]
            try simp only [List.getElem_cons_zero]
            try simp only [Act.put]
            try simp only [List.setIfInBounds_toArray]
            try simp only [List.set_cons_succ]
            try simp only [List.set_cons_zero]
            refine wpAnyH_take (i := 1) (v := (.pointer (some ⟨gA, 3, none⟩))) rfl (by kernel_rfl) (by kernel_rfl) (by kernel_rfl) (fun _ _ _ h => h) (Or.inl ⟨by rfl, ?_⟩) (by assumption) ?_
            · intro w hSw
              (try dsimp only at hSw)
              go_simp
            try simp only [List.getElem_toArray]
            try simp only [List.getElem_cons_succ]
            try simp only [List.getElem_cons_zero]
            try simp only [Act.put]
            try simp only [List.setIfInBounds_toArray]
            try simp only [List.set_cons_succ]
            try simp only [List.set_cons_zero]
            refine wpAnyH_take (i := 2) (v := (.pointer (some ⟨gA, 3, none⟩))) rfl (by kernel_rfl) (by kernel_rfl) (by kernel_rfl) (fun _ _ _ h => h) (Or.inl ⟨by rfl, ?_⟩) (by assumption) ?_
            · intro w hSw
              (try dsimp only at hSw)
              go_simp
            try simp only [List.getElem_toArray]
            try simp only [List.getElem_cons_succ]
            try simp only [List.getElem_cons_zero]
            try simp only [Act.put]
            try simp only [List.setIfInBounds_toArray]
            try simp only [List.set_cons_succ]
            try simp only [List.set_cons_zero]
            refine wpAnyH_take (i := 3) (v := (.string lo)) rfl (by kernel_rfl) (by kernel_rfl) (by kernel_rfl) (fun _ _ _ h => h) (Or.inl ⟨by rfl, ?_⟩) (by assumption) ?_
            · intro w hSw
              (try dsimp only at hSw)
              go_simp
            try simp only [List.getElem_toArray]
            try simp only [List.getElem_cons_succ]
            try simp only [List.getElem_cons_zero]
            try simp only [Act.put]
            try simp only [List.setIfInBounds_toArray]
            try simp only [List.set_cons_succ]
            try simp only [List.set_cons_zero]
            refine wpAnyH_take (i := 7) (v := (.pointer (some ⟨gA, 3, none⟩))) rfl (by kernel_rfl) (by kernel_rfl) (by kernel_rfl) (fun _ _ _ h => h) (Or.inl ⟨by rfl, ?_⟩) (by assumption) ?_
            · intro w hSw
              (try dsimp only at hSw)
              go_simp
            try simp only [List.getElem_toArray]
            try simp only [List.getElem_cons_succ]
            try simp only [List.getElem_cons_zero]
            try simp only [Act.put]
            try simp only [List.setIfInBounds_toArray]
            try simp only [List.set_cons_succ]
            try simp only [List.set_cons_zero]
            refine wpAnyH_take (i := 8) (v := (.pointer (some ⟨gA, 4, none⟩))) rfl (by kernel_rfl) (by kernel_rfl) (by kernel_rfl) (fun _ _ _ h => h) (Or.inl ⟨by rfl, ?_⟩) (by assumption) ?_
            · intro w hSw
              (try dsimp only at hSw)
              go_simp
            try simp only [List.getElem_toArray]
            try simp only [List.getElem_cons_succ]
            try simp only [List.getElem_cons_zero]
            try simp only [Act.put]
            try simp only [List.setIfInBounds_toArray]
            try simp only [List.set_cons_succ]
            try simp only [List.set_cons_zero]
            refine wpAnyH_take (i := 9) (v := (.string hi)) rfl (by kernel_rfl) (by kernel_rfl) (by kernel_rfl) (fun _ _ _ h => h) (Or.inl ⟨by rfl, ?_⟩) (by assumption) ?_
            · intro w hSw
              (try dsimp only at hSw)
              go_simp
            try simp only [List.getElem_toArray]
            try simp only [List.getElem_cons_succ]
            try simp only [List.getElem_cons_zero]
            try simp only [Act.put]
            try simp only [List.setIfInBounds_toArray]
            try simp only [List.set_cons_succ]
            try simp only [List.set_cons_zero]
            refine wpAnyH_take (i := 13) (v := (.pointer (some ⟨gA, 5, none⟩))) rfl (by kernel_rfl) (by kernel_rfl) (by kernel_rfl) (fun _ _ _ h => h) (Or.inl ⟨by rfl, ?_⟩) (by assumption) ?_
            · intro w hSw
              (try dsimp only at hSw)
              go_simp
            try simp only [List.getElem_toArray]
            try simp only [List.getElem_cons_succ]
            try simp only [List.getElem_cons_zero]
            try simp only [Act.put]
            try simp only [List.setIfInBounds_toArray]
            try simp only [List.set_cons_succ]
            try simp only [List.set_cons_zero]
            refine wpAnyH_take (i := 14) (v := (.int .i64 mo)) rfl (by kernel_rfl) (by kernel_rfl) (by kernel_rfl) (fun _ _ _ h => h) (Or.inl ⟨by rfl, ?_⟩) (by assumption) ?_
            · intro w hSw
              (try dsimp only at hSw)
              go_simp
            try simp only [List.getElem_toArray]
            try simp only [List.getElem_cons_succ]
            try simp only [List.getElem_cons_zero]
            try simp only [Act.put]
            try simp only [List.setIfInBounds_toArray]
            try simp only [List.set_cons_succ]
            try simp only [List.set_cons_zero]
            refine wpAnyH_ready (rs := [4]) (by kernel_rfl) (by simp) ?_
            refine AllReadyH.cons rfl (fun K1 hK => ?_) AllReadyH.nil
            go_simp
            refine (CQ.out lo _ HS.out.2.2.1).mono ?_
            rintro r v1 ⟨rfl, hb⟩
            go_wp2_with fail
            have A1 := hid (A0.out.below hb)
            have B1 := hid (B0.out.trans (hb.mono B0.out.size))
            clear hb A0 B0
            refine hK.out _ _ ?_ (fun hHeld => ?_)
            · exact ⟨A1.out.cell (j := 1) rfl, A1.out.cell (j := 2) rfl, A1.out.cell (j := 3) rfl, A1.out.cell (j := 4) rfl, A1.out.cell (j := 5) rfl⟩
            clear hK K1
            try simp only [List.getElem_toArray]
            try simp only [List.getElem_cons_succ]
            try simp only [List.getElem_cons_zero]
            try simp only [Act.put]
            try simp only [List.setIfInBounds_toArray]
            try simp only [List.set_cons_succ]
            try simp only [List.set_cons_zero]
            refine wpAnyH_take (i := 5) (v := (.string (⟨#[98, 97, 99, 107, 32]⟩ ++ qt lo))) rfl (by kernel_rfl) (by kernel_rfl) (by kernel_rfl) (fun _ _ _ h => h) (Or.inl ⟨by rfl, ?_⟩) (by assumption) ?_
            · intro w hSw
              (try dsimp only at hSw)
              go_simp
              try omega
            try simp only [List.getElem_toArray]
            try simp only [List.getElem_cons_succ]
            try simp only [List.getElem_cons_zero]
            try simp only [Act.put]
            try simp only [List.setIfInBounds_toArray]
            try simp only [List.set_cons_succ]
            try simp only [List.set_cons_zero]
            refine wpAnyH_take (i := 6) (v := (.string (⟨#[98, 97, 99, 107, 32]⟩ ++ qt lo ++ ⟨#[32]⟩))) rfl (by kernel_rfl) (by kernel_rfl) (by kernel_rfl) (fun _ _ _ h => h) (Or.inl ⟨by rfl, ?_⟩) (by assumption) ?_
            · intro w hSw
              (try dsimp only at hSw)
              go_simp
              try omega
            try simp only [List.getElem_toArray]
            try simp only [List.getElem_cons_succ]
            try simp only [List.getElem_cons_zero]
            try simp only [Act.put]
            try simp only [List.setIfInBounds_toArray]
            try simp only [List.set_cons_succ]
            try simp only [List.set_cons_zero]
            refine wpAnyH_ready (rs := [10]) (by kernel_rfl) (by simp) ?_
            refine AllReadyH.cons rfl (fun K1 hK => ?_) AllReadyH.nil
            go_simp
            refine (CQ.out hi _ HS.out.2.2.2).mono ?_
            rintro r v2 ⟨rfl, hb⟩
            go_wp2_with fail
            have A2 := hid (A1.out.below hb)
            have B2 := hid (B1.out.trans (hb.mono B1.out.size))
            clear hb A1 B1
            refine hK.out _ _ ?_ (fun hHeld => ?_)
            · exact ⟨A2.out.cell (j := 1) rfl, A2.out.cell (j := 2) rfl, A2.out.cell (j := 3) rfl, A2.out.cell (j := 4) rfl, A2.out.cell (j := 5) rfl⟩
            clear hK K1
            try simp only [List.getElem_toArray]
            try simp only [List.getElem_cons_succ]
            try simp only [List.getElem_cons_zero]
            try simp only [Act.put]
            try simp only [List.setIfInBounds_toArray]
            try simp only [List.set_cons_succ]
            try simp only [List.set_cons_zero]
            refine wpAnyH_take (i := 11) (v := (.string (⟨#[98, 97, 99, 107, 32]⟩ ++ qt lo ++ ⟨#[32]⟩ ++ qt hi))) rfl (by kernel_rfl) (by kernel_rfl) (by kernel_rfl) (fun _ _ _ h => h) (Or.inl ⟨by rfl, ?_⟩) (by assumption) ?_
            · intro w hSw
              (try dsimp only at hSw)
              go_simp
              try omega
            try simp only [List.getElem_toArray]
            try simp only [List.getElem_cons_succ]
            try simp only [List.getElem_cons_zero]
            try simp only [Act.put]
            try simp only [List.setIfInBounds_toArray]
            try simp only [List.set_cons_succ]
            try simp only [List.set_cons_zero]
            refine wpAnyH_take (i := 12) (v := (.string (⟨#[98, 97, 99, 107, 32]⟩ ++ qt lo ++ ⟨#[32]⟩ ++ qt hi ++ ⟨#[32]⟩))) rfl (by kernel_rfl) (by kernel_rfl) (by kernel_rfl) (fun _ _ _ h => h) (Or.inl ⟨by rfl, ?_⟩) (by assumption) ?_
            · intro w hSw
              (try dsimp only at hSw)
              go_simp
              try omega
            try simp only [List.getElem_toArray]
            try simp only [List.getElem_cons_succ]
            try simp only [List.getElem_cons_zero]
            try simp only [Act.put]
            try simp only [List.setIfInBounds_toArray]
            try simp only [List.set_cons_succ]
            try simp only [List.set_cons_zero]
            refine wpAnyH_ready (rs := [15]) (by kernel_rfl) (by simp) ?_
            refine AllReadyH.cons rfl (fun K1 hK => ?_) AllReadyH.nil
            go_simp
            refine (CN.out mo _).mono ?_
            rintro r v3 ⟨rfl, hb⟩
            go_wp2_with fail
            have A3 := hid (A2.out.below hb)
            have B3 := hid (B2.out.trans (hb.mono B2.out.size))
            clear hb A2 B2
            refine hK.out _ _ ?_ (fun hHeld => ?_)
            · exact ⟨A3.out.cell (j := 1) rfl, A3.out.cell (j := 2) rfl, A3.out.cell (j := 3) rfl, A3.out.cell (j := 4) rfl, A3.out.cell (j := 5) rfl⟩
            clear hK K1
            try simp only [List.getElem_toArray]
            try simp only [List.getElem_cons_succ]
            try simp only [List.getElem_cons_zero]
            try simp only [Act.put]
            try simp only [List.setIfInBounds_toArray]
            try simp only [List.set_cons_succ]
            try simp only [List.set_cons_zero]
            refine wpAnyH_take (i := 16) (v := (.string (⟨#[98, 97, 99, 107, 32]⟩ ++ qt lo ++ ⟨#[32]⟩ ++ qt hi ++ ⟨#[32]⟩ ++ numS mo))) rfl (by kernel_rfl) (by kernel_rfl) (by kernel_rfl) (fun _ _ _ h => h) (Or.inl ⟨by rfl, ?_⟩) (by assumption) ?_
            · intro w hSw
              (try dsimp only at hSw)
              go_simp
              try omega
            try simp only [List.getElem_toArray]
            try simp only [List.getElem_cons_succ]
            try simp only [List.getElem_cons_zero]
            try simp only [Act.put]
            try simp only [List.setIfInBounds_toArray]
            try simp only [List.set_cons_succ]
            try simp only [List.set_cons_zero]
            refine wpAnyH_take (i := 17) (v := (.string (⟨#[98, 97, 99, 107, 32]⟩ ++ qt lo ++ ⟨#[32]⟩ ++ qt hi ++ ⟨#[32]⟩ ++ numS mo))) rfl (by kernel_rfl) (by kernel_rfl) (by kernel_rfl) (fun _ _ _ h => h) (Or.inl ⟨by rfl, ?_⟩) (by assumption) ?_
            · intro w hSw
              (try dsimp only at hSw)
              go_simp
              try omega
            try simp only [List.getElem_toArray]
            try simp only [List.getElem_cons_succ]
            try simp only [List.getElem_cons_zero]
            try simp only [Act.put]
            try simp only [List.setIfInBounds_toArray]
            try simp only [List.set_cons_succ]
            try simp only [List.set_cons_zero]
            refine wpAnyH_done (by kernel_rfl) ?_ _
            refine NoPanic.normal ?_
            go_wp2
            go_ret
            exact ⟨by rw [HV2.out]; rfl, B3.out⟩
end Go.Proofs.YtjddkofpfmjojaaDoor
/-
  StepText of the specification.
-/
namespace Go.Proofs.YtjddkofpfmjojaaDoor
open Go.RowKit
set_option linter.unusedVariables false
theorem sw_size (k : Int) : (sw k).size ≤ 20 := by
  by_cases h : 0 ≤ k ∧ k < 10
  · have : k = 0 ∨ k = 1 ∨ k = 2 ∨ k = 3 ∨ k = 4 ∨ k = 5 ∨ k = 6 ∨ k = 7 ∨ k = 8 ∨ k = 9 := by omega
    rcases this with rfl | rfl | rfl | rfl | rfl | rfl | rfl | rfl | rfl | rfl <;> decide
  · rw [sw_no (by omega)]; decide
theorem noE_false {ws : List ByteArray} {x : ByteArray} (h : x ∈ ws) (hx : x = ByteArray.empty) : noE ws = false := by
  cases e : noE ws with
  | false => rfl
  | true => exact absurd hx (noE_mem e h)
theorem st_k (S : ST) (h : S.k < 1 ∨ 9 < S.k) : stT S = ⟨#[]⟩ := by
  refine stT_no2 (noE_false (x := sw S.k) (List.mem_cons_self ..) ?_)
  by_cases h0 : S.k = 0
  · rw [h0]; rfl
  · rw [sw_no (by omega)]; rfl
theorem st_a (S : ST) (h : ¬ (0 ≤ S.a ∧ S.a ≤ 1099511627775)) : stT S = ⟨#[]⟩ := by
  by_cases h5 : S.k = 5
  · refine stT_no1 ?_
    unfold stWr
    rw [h5, if_neg (by decide), if_neg (by decide)]
    have : ¬ S.a = 0 := by omega
    simp [this]
  · refine stT_no2 (noE_false (x := numS S.a) ?_ (numS_bad _ h))
    unfold stW
    rw [if_neg h5]
    simp
theorem st_b (S : ST) (h : ¬ (0 ≤ S.b ∧ S.b ≤ 1099511627775)) : stT S = ⟨#[]⟩ := by
  by_cases h7 : S.k = 7
  · refine stT_no2 (noE_false (x := numS S.b) ?_ (numS_bad _ h))
    unfold stW
    rw [h7, if_neg (show ¬ (7 : Int) = 1 by decide), if_pos rfl]
    simp
  · refine stT_no1 ?_
    have hb : ¬ S.b = 0 := by omega
    unfold stWr
    rw [if_neg h7]
    split <;> simp [hb]
theorem st_z (S : ST) (h1 : ¬ S.k = 1) (h : clZ S.kd S.ak S.ky S.vl S.lo S.hi S.mo S.bk = false) : stT S = ⟨#[]⟩ := by
  refine stT_no1 ?_
  unfold stWr
  rw [if_neg h1, h]
  split <;> simp
theorem st_bk (S : ST) (h7 : ¬ S.k = 7) (h : ¬ S.b = 0 ∨ ¬ S.kp = []) : stT S = ⟨#[]⟩ := by
  refine stT_no1 ?_
  unfold stWr
  rw [if_neg h7]
  rcases h with h | h
  · split <;> simp [h]
  · split <;> simp [h]
theorem st_5a (S : ST) (h5 : S.k = 5) (h : ¬ S.a = 0) : stT S = ⟨#[]⟩ := by
  refine stT_no1 ?_
  unfold stWr
  rw [h5, if_neg (by decide), if_neg (by decide)]
  simp [h]
theorem sw_ne {k : Int} (h1 : 1 ≤ k) (h9 : k ≤ 9) : sw k ≠ ByteArray.empty := by
  have : k = 1 ∨ k = 2 ∨ k = 3 ∨ k = 4 ∨ k = 5 ∨ k = 6 ∨ k = 7 ∨ k = 8 ∨ k = 9 := by omega
  rcases this with rfl | rfl | rfl | rfl | rfl | rfl | rfl | rfl | rfl <;> decide
theorem numS_ne {n : Int} (h : 0 ≤ n ∧ n ≤ 1099511627775) : numS n ≠ ByteArray.empty := fun e => (numS_zero n).1 e h
theorem noE_of {ws : List ByteArray} (h : ∀ x ∈ ws, x ≠ ByteArray.empty) : noE ws = true := List.all_eq_true.2 fun x hx => by simpa using h x hx
theorem isE_emp : isE ⟨#[]⟩ = true := decide_eq_true (wb_nil.2 rfl)
theorem akZ0 : akZ 0 ⟨#[]⟩ ⟨#[]⟩ ⟨#[]⟩ ⟨#[]⟩ 0 false = true := by unfold akZ; rw [isE_emp]; rfl
theorem clZ0 : clZ 0 0 ⟨#[]⟩ ⟨#[]⟩ ⟨#[]⟩ ⟨#[]⟩ 0 false = true := by unfold clZ; rw [akZ0]; rfl
theorem st_5 : stT ⟨5, 0, 0, [], 0, 0, ⟨#[]⟩, ⟨#[]⟩, ⟨#[]⟩, ⟨#[]⟩, 0, false⟩ = sw 5 := by
  have hw : stW ⟨5, 0, 0, [], 0, 0, ⟨#[]⟩, ⟨#[]⟩, ⟨#[]⟩, ⟨#[]⟩, 0, false⟩ = [sw 5] := rfl
  rw [stT_is (by rw [wr_e (by decide) (by decide), clZ0]; rfl) (by rw [hw]; decide), hw]
  rfl
theorem st_e {n : Nat} {a : Int} (h1 : ¬ (n : Int) = 1) (h7 : ¬ (n : Int) = 7) (h5 : ¬ (n : Int) = 5) (hn1 : 1 ≤ (n : Int)) (hn9 : (n : Int) ≤ 9) (ha : 0 ≤ a ∧ a ≤ 1099511627775) : stT ⟨n, a, 0, [], 0, 0, ⟨#[]⟩, ⟨#[]⟩, ⟨#[]⟩, ⟨#[]⟩, 0, false⟩ = sw n ++ ⟨#[32]⟩ ++ numS a := by
  have hw : stW ⟨n, a, 0, [], 0, 0, ⟨#[]⟩, ⟨#[]⟩, ⟨#[]⟩, ⟨#[]⟩, 0, false⟩ = [sw n, numS a] := by
    unfold stW
    dsimp only
    rw [if_neg h5, if_neg h1, if_neg h7]
    rfl
  rw [stT_is (by rw [wr_e h1 h7, clZ0]; simp [h5]) (noE_of ?_), hw]
  · rfl
  · rw [hw]
    intro x hx
    simp only [List.mem_cons, List.not_mem_nil, or_false] at hx
    rcases hx with rfl | rfl
    · exact sw_ne hn1 hn9
    · exact numS_ne ha
theorem st_7 {a b : Int} {kp : List Int} (ha : 0 ≤ a ∧ a ≤ 1099511627775) (hb : 0 ≤ b ∧ b ≤ 1099511627775) (hk : ∀ y ∈ kp, 0 ≤ y ∧ y ≤ 1099511627775) : stT ⟨7, a, b, kp, 0, 0, ⟨#[]⟩, ⟨#[]⟩, ⟨#[]⟩, ⟨#[]⟩, 0, false⟩ = (kp.map numS).foldl (fun o y => o ++ blk ++ y) (sw 7 ++ ⟨#[32]⟩ ++ numS a ++ ⟨#[32]⟩ ++ numS b) := by
  have hw : stW ⟨7, a, b, kp, 0, 0, ⟨#[]⟩, ⟨#[]⟩, ⟨#[]⟩, ⟨#[]⟩, 0, false⟩ = sw 7 :: numS a :: numS b :: kp.map numS := rfl
  rw [stT_is (by rw [wr_7]; exact clZ0) (noE_of ?_), hw]
  · rfl
  · rw [hw]
    intro x hx
    simp only [List.mem_cons, List.mem_map] at hx
    rcases hx with rfl | rfl | rfl | ⟨y, hy, rfl⟩
    · exact sw_ne (by decide) (by decide)
    · exact numS_ne ha
    · exact numS_ne hb
    · exact numS_ne (hk y hy)
theorem st_7no {a b : Int} {kp : List Int} {y : Int} (hm : y ∈ kp) (hy : ¬ (0 ≤ y ∧ y ≤ 1099511627775)) : stT ⟨7, a, b, kp, 0, 0, ⟨#[]⟩, ⟨#[]⟩, ⟨#[]⟩, ⟨#[]⟩, 0, false⟩ = ⟨#[]⟩ := by
  refine stT_no2 (noE_false (x := numS y) ?_ (numS_bad _ hy))
  show _ ∈ sw 7 :: numS a :: numS b :: kp.map numS
  simp only [List.mem_cons, List.mem_map]
  exact .inr (.inr (.inr ⟨y, hm, rfl⟩))
theorem st_1 {a kd ak : Int} {ky vl lo hi : ByteArray} {mo : Int} {bk : Bool} (ha : 0 ≤ a ∧ a ≤ 1099511627775) (hc : clOk kd ak ky vl lo hi mo bk = true) : stT ⟨1, a, 0, [], kd, ak, ky, vl, lo, hi, mo, bk⟩ = sw 1 ++ ⟨#[32]⟩ ++ numS a ++ ⟨#[32]⟩ ++ clT kd ak ky vl lo hi mo bk := by
  have hw : stW ⟨1, a, 0, [], kd, ak, ky, vl, lo, hi, mo, bk⟩ = [sw 1, numS a] ++ clW kd ak ky vl lo hi mo bk := rfl
  have hcw := clW_ne hc
  rw [stT_is (by rw [wr_1, hc]; rfl) (noE_of ?_), hw, joinW_app (by simp) ?_, clT_yes hc]
  · rfl
  · intro e; unfold clW akW at e; revert e; split <;> (try split) <;> (try split) <;> (try split) <;> simp
  · rw [hw]
    intro x hx
    rcases List.mem_append.1 hx with hx | hx
    · simp only [List.mem_cons, List.not_mem_nil, or_false] at hx
      rcases hx with rfl | rfl
      · exact sw_ne (by decide) (by decide)
      · exact numS_ne ha
    · exact noE_mem hcw hx
theorem joinW_pos {ws : List ByteArray} (h : ws ≠ []) (k : noE ws = true) : 0 < (joinW ws).size := by
  cases ws with
  | nil => exact absurd rfl h
  | cons x r =>
    rw [joinW_len]
    have : x ≠ ByteArray.empty := noE_mem k (List.mem_cons_self ..)
    have h2 : x.size ≠ 0 := fun e => this (ByteArray.size_eq_zero_iff.1 e)
    omega
theorem clT_ne {kd ak : Int} {ky vl lo hi : ByteArray} {mo : Int} {bk : Bool} (hc : clOk kd ak ky vl lo hi mo bk = true) : ¬ (clT kd ak ky vl lo hi mo bk).size = 0 := by
  rw [clT_yes hc]
  have := joinW_pos (ws := clW kd ak ky vl lo hi mo bk) (by intro e; unfold clW akW at e; revert e; split <;> (try split) <;> (try split) <;> (try split) <;> simp) (clW_ne hc)
  omega
theorem sum_le {c : Nat} : ∀ (l : List Nat), (∀ x ∈ l, x ≤ c) → l.sum ≤ c * l.length
  | [], _ => by simp
  | x :: l, h => by
    have h1 := sum_le l (fun y hy => h y (List.mem_cons_of_mem _ hy))
    have h2 := h x (List.mem_cons_self ..)
    simp only [List.sum_cons, List.length_cons, Nat.mul_add] at h1 ⊢
    omega
theorem clT_size (kd ak : Int) (ky vl lo hi : ByteArray) (mo : Int) (bk : Bool) : (clT kd ak ky vl lo hi mo bk).size ≤ 8388608 := by
  unfold clT
  split
  · have hz := stW_size ⟨1, 0, 0, [], kd, ak, ky, vl, lo, hi, mo, bk⟩
    have hm : ∀ x ∈ clW kd ak ky vl lo hi mo bk, x.size ≤ 1048576 := fun x hx => hz x (by show _ ∈ [sw 1, numS 0] ++ clW kd ak ky vl lo hi mo bk; exact List.mem_append.2 (.inr hx))
    have hl := clW_len kd ak ky vl lo hi mo bk
    generalize clW kd ak ky vl lo hi mo bk = ws at *
    cases ws with
    | nil => decide
    | cons x r =>
      rw [joinW_len]
      have h1 := hm x (List.mem_cons_self ..)
      have h2 := sum_le (c := 1048577) (r.map fun y => y.size + 1) (fun y hy => by
        obtain ⟨z, hz, rfl⟩ := List.mem_map.1 hy
        have := hm z (List.mem_cons_of_mem _ hz)
        omega)
      simp only [List.length_map, List.length_cons] at h2 hl
      omega
  · decide
set_option maxHeartbeats 16000000 in
set_option maxRecDepth 20000 in
theorem specStepText_any (S : Nat → Prop) (k a b : Int) (ka : Option Addr) (kn kc : Nat) (kp : List Int) (kd ak : Int) (ky vl lo hi : ByteArray) (mo : Int) (bk : Bool) (w : World) (hp : Ir w S (.slice ka kn kc) kp) (hn : kn ≤ 1048576) :
    Calls Tryd.prog 6 #[.agg #[.int .i64 k, .int .i64 a, .int .i64 b, .slice ka kn kc, .int .i64 kd, .int .i64 ak, .string ky, .string vl, .string lo, .string hi, .int .i64 mo, .bool bk]] w fun e w' => e = .returned (.string (stT ⟨k, a, b, kp, kd, ak, ky, vl, lo, hi, mo, bk⟩)) ∧ Below w.heap.size w w' := by
  have K0 := hid ((Bk.new w 39 [.int .i64 k, .int .i64 a, .int .i64 b, .slice ka kn kc, .int .i64 kd, .int .i64 ak, .string ky, .string vl, .string lo, .string hi, .int .i64 mo, .bool bk]).alloc (.cells #[.int .i64 0, .string ⟨#[]⟩, .string ⟨#[]⟩, .string ⟨#[]⟩, .string ⟨#[]⟩, .int .i64 0, .bool false] 35))
  have N0 := hid (Bk.new (w.alloc (.cells #[.int .i64 k, .int .i64 a, .int .i64 b, .slice ka kn kc, .int .i64 kd, .int .i64 ak, .string ky, .string vl, .string lo, .string hi, .int .i64 mo, .bool bk] 39)) 35 [.int .i64 0, .string ⟨#[]⟩, .string ⟨#[]⟩, .string ⟨#[]⟩, .string ⟨#[]⟩, .int .i64 0, .bool false])
  rw [show (w.alloc (.cells #[.int .i64 k, .int .i64 a, .int .i64 b, .slice ka kn kc, .int .i64 kd, .int .i64 ak, .string ky, .string vl, .string lo, .string hi, .int .i64 mo, .bool bk] 39)).heap.size = w.heap.size + 1 by simp] at N0
  have B0 : Hid (Below w.heap.size w ((w.alloc (.cells #[.int .i64 k, .int .i64 a, .int .i64 b, .slice ka kn kc, .int .i64 kd, .int .i64 ak, .string ky, .string vl, .string lo, .string hi, .int .i64 mo, .bool bk] 39)).alloc (.cells #[.int .i64 0, .string ⟨#[]⟩, .string ⟨#[]⟩, .string ⟨#[]⟩, .string ⟨#[]⟩, .int .i64 0, .bool false] 35))) := below_new (below_new (Below.refl _ _))
  have H0 := hid (hp.below B0.out)
  have HBW0 : Hid (∀ {v : World}, Below ((w.alloc (.cells #[.int .i64 k, .int .i64 a, .int .i64 b, .slice ka kn kc, .int .i64 kd, .int .i64 ak, .string ky, .string vl, .string lo, .string hi, .int .i64 mo, .bool bk] 39)).alloc (.cells #[.int .i64 0, .string ⟨#[]⟩, .string ⟨#[]⟩, .string ⟨#[]⟩, .string ⟨#[]⟩, .int .i64 0, .bool false] 35)).heap.size ((w.alloc (.cells #[.int .i64 k, .int .i64 a, .int .i64 b, .slice ka kn kc, .int .i64 kd, .int .i64 ak, .string ky, .string vl, .string lo, .string hi, .int .i64 mo, .bool bk] 39)).alloc (.cells #[.int .i64 0, .string ⟨#[]⟩, .string ⟨#[]⟩, .string ⟨#[]⟩, .string ⟨#[]⟩, .int .i64 0, .bool false] 35)) v → Below w.heap.size w v) := fun hb => B0.out.trans (hb.mono B0.out.size)
  have KN : Hid (kn = kp.length) := (Rw.len hp).1
  have CW := hid (fun w => l14Words_any w)
  have CN := hid (fun n w => specNumText_any n w)
  have CC := hid (fun w => l14Call_any kd ak ky vl lo hi mo bk w)
  have HN := hid hn
  clear hp
  generalize hU : (w.alloc (.cells #[.int .i64 k, .int .i64 a, .int .i64 b, .slice ka kn kc, .int .i64 kd, .int .i64 ak, .string ky, .string vl, .string lo, .string hi, .int .i64 mo, .bool bk] 39)).alloc (.cells #[.int .i64 0, .string ⟨#[]⟩, .string ⟨#[]⟩, .string ⟨#[]⟩, .string ⟨#[]⟩, .int .i64 0, .bool false] 35) = U at *
  have HU := hid hU
  clear hU
  by_cases hk : k < 1
  · have HV := hid (st_k ⟨k, a, b, kp, kd, ak, ky, vl, lo, hi, mo, bk⟩ (.inl hk))
    go_enter Tryd.func6, Tryd.ntmps6
    go_wp2_with fail
    rw [HU.out]
    have c0 := K0.out.cell (j := 0) rfl
    have c1 := K0.out.cell (j := 1) rfl
    have c2 := K0.out.cell (j := 2) rfl
    have c3 := K0.out.cell (j := 3) rfl
    have c4 := K0.out.cell (j := 4) rfl
    have c5 := K0.out.cell (j := 5) rfl
    have c6 := K0.out.cell (j := 6) rfl
    have c7 := K0.out.cell (j := 7) rfl
    have c8 := K0.out.cell (j := 8) rfl
    have c9 := K0.out.cell (j := 9) rfl
    have c10 := K0.out.cell (j := 10) rfl
    have c11 := K0.out.cell (j := 11) rfl
    have n0 := N0.out.cell (j := 0) rfl
    have n1 := N0.out.cell (j := 1) rfl
    have n2 := N0.out.cell (j := 2) rfl
    have n3 := N0.out.cell (j := 3) rfl
    have n4 := N0.out.cell (j := 4) rfl
    have n5 := N0.out.cell (j := 5) rfl
    have n6 := N0.out.cell (j := 6) rfl
    go_wp2
    go_ret
    exact ⟨by rw [HV.out]; rfl, B0.out⟩
  by_cases hk9 : 9 < k
  · have HV := hid (st_k ⟨k, a, b, kp, kd, ak, ky, vl, lo, hi, mo, bk⟩ (.inr hk9))
    go_enter Tryd.func6, Tryd.ntmps6
    go_wp2_with fail
    rw [HU.out]
    have c0 := K0.out.cell (j := 0) rfl
    have c1 := K0.out.cell (j := 1) rfl
    have c2 := K0.out.cell (j := 2) rfl
    have c3 := K0.out.cell (j := 3) rfl
    have c4 := K0.out.cell (j := 4) rfl
    have c5 := K0.out.cell (j := 5) rfl
    have c6 := K0.out.cell (j := 6) rfl
    have c7 := K0.out.cell (j := 7) rfl
    have c8 := K0.out.cell (j := 8) rfl
    have c9 := K0.out.cell (j := 9) rfl
    have c10 := K0.out.cell (j := 10) rfl
    have c11 := K0.out.cell (j := 11) rfl
    have n0 := N0.out.cell (j := 0) rfl
    have n1 := N0.out.cell (j := 1) rfl
    have n2 := N0.out.cell (j := 2) rfl
    have n3 := N0.out.cell (j := 3) rfl
    have n4 := N0.out.cell (j := 4) rfl
    have n5 := N0.out.cell (j := 5) rfl
    have n6 := N0.out.cell (j := 6) rfl
    go_wp2
    go_ret
    exact ⟨by rw [HV.out]; rfl, B0.out⟩
  by_cases ha : 0 ≤ a ∧ a ≤ 1099511627775
  case neg =>
    have HV := hid (st_a ⟨k, a, b, kp, kd, ak, ky, vl, lo, hi, mo, bk⟩ ha)
    have HA0 := hid ha
    clear ha
    go_enter Tryd.func6, Tryd.ntmps6
    go_wp2_with fail
    rw [HU.out]
    have c0 := K0.out.cell (j := 0) rfl
    have c1 := K0.out.cell (j := 1) rfl
    have c2 := K0.out.cell (j := 2) rfl
    have c3 := K0.out.cell (j := 3) rfl
    have c4 := K0.out.cell (j := 4) rfl
    have c5 := K0.out.cell (j := 5) rfl
    have c6 := K0.out.cell (j := 6) rfl
    have c7 := K0.out.cell (j := 7) rfl
    have c8 := K0.out.cell (j := 8) rfl
    have c9 := K0.out.cell (j := 9) rfl
    have c10 := K0.out.cell (j := 10) rfl
    have c11 := K0.out.cell (j := 11) rfl
    have n0 := N0.out.cell (j := 0) rfl
    have n1 := N0.out.cell (j := 1) rfl
    have n2 := N0.out.cell (j := 2) rfl
    have n3 := N0.out.cell (j := 3) rfl
    have n4 := N0.out.cell (j := 4) rfl
    have n5 := N0.out.cell (j := 5) rfl
    have n6 := N0.out.cell (j := 6) rfl
    go_wp2_with fail
    refine (specNum_any a _ false (decide_eq_false HA0.out).symm).mono ?_
    rintro e w1 ⟨rfl, rfl⟩
    go_wp2
    go_ret
    exact ⟨by rw [HV.out]; rfl, B0.out⟩
  have HA0 := hid ha
  by_cases hb : 0 ≤ b ∧ b ≤ 1099511627775
  case neg =>
    have HV := hid (st_b ⟨k, a, b, kp, kd, ak, ky, vl, lo, hi, mo, bk⟩ hb)
    have HB0 := hid hb
    clear hb
    go_enter Tryd.func6, Tryd.ntmps6
    go_wp2_with fail
    rw [HU.out]
    have c0 := K0.out.cell (j := 0) rfl
    have c1 := K0.out.cell (j := 1) rfl
    have c2 := K0.out.cell (j := 2) rfl
    have c3 := K0.out.cell (j := 3) rfl
    have c4 := K0.out.cell (j := 4) rfl
    have c5 := K0.out.cell (j := 5) rfl
    have c6 := K0.out.cell (j := 6) rfl
    have c7 := K0.out.cell (j := 7) rfl
    have c8 := K0.out.cell (j := 8) rfl
    have c9 := K0.out.cell (j := 9) rfl
    have c10 := K0.out.cell (j := 10) rfl
    have c11 := K0.out.cell (j := 11) rfl
    have n0 := N0.out.cell (j := 0) rfl
    have n1 := N0.out.cell (j := 1) rfl
    have n2 := N0.out.cell (j := 2) rfl
    have n3 := N0.out.cell (j := 3) rfl
    have n4 := N0.out.cell (j := 4) rfl
    have n5 := N0.out.cell (j := 5) rfl
    have n6 := N0.out.cell (j := 6) rfl
    go_wp2_with fail
    refine (specNum_any a _ true (decide_eq_true HA0.out).symm).mono ?_
    rintro e w1 ⟨rfl, rfl⟩
    go_wp2_with fail
    refine (specNum_any b _ false (decide_eq_false HB0.out).symm).mono ?_
    rintro e w1 ⟨rfl, rfl⟩
    go_wp2
    go_ret
    exact ⟨by rw [HV.out]; rfl, B0.out⟩
  have HB0 := hid hb
  by_cases h1 : k = 1
  · subst h1
    by_cases hb0 : b = 0
    case neg =>
      have HV := hid (st_bk ⟨1, a, b, kp, kd, ak, ky, vl, lo, hi, mo, bk⟩ (show ¬ (1 : Int) = 7 by decide) (.inl hb0))
      go_enter Tryd.func6, Tryd.ntmps6
      go_wp2_with fail
      rw [HU.out]
      have c0 := K0.out.cell (j := 0) rfl
      have c1 := K0.out.cell (j := 1) rfl
      have c2 := K0.out.cell (j := 2) rfl
      have c3 := K0.out.cell (j := 3) rfl
      have c4 := K0.out.cell (j := 4) rfl
      have c5 := K0.out.cell (j := 5) rfl
      have c6 := K0.out.cell (j := 6) rfl
      have c7 := K0.out.cell (j := 7) rfl
      have c8 := K0.out.cell (j := 8) rfl
      have c9 := K0.out.cell (j := 9) rfl
      have c10 := K0.out.cell (j := 10) rfl
      have c11 := K0.out.cell (j := 11) rfl
      have n0 := N0.out.cell (j := 0) rfl
      have n1 := N0.out.cell (j := 1) rfl
      have n2 := N0.out.cell (j := 2) rfl
      have n3 := N0.out.cell (j := 3) rfl
      have n4 := N0.out.cell (j := 4) rfl
      have n5 := N0.out.cell (j := 5) rfl
      have n6 := N0.out.cell (j := 6) rfl
      go_wp2_with fail
      refine (specNum_any a _ true (by simp; try omega)).mono ?_
      rintro e w1 ⟨rfl, rfl⟩
      go_wp2_with fail
      refine (specNum_any b _ true (by simp; try omega)).mono ?_
      rintro e w1 ⟨rfl, rfl⟩
      go_wp2
      go_ret
      exact ⟨by rw [HV.out]; rfl, B0.out⟩
    subst hb0
    by_cases hk0 : kn = 0
    case neg =>
      have HV := hid (st_bk ⟨1, a, 0, kp, kd, ak, ky, vl, lo, hi, mo, bk⟩ (show ¬ (1 : Int) = 7 by decide) (.inr (fun e => hk0 (by have e' : kp = [] := e; rw [KN.out, e']; rfl))))
      have hk1 : (0 : Int) < (kn : Int) := by omega
      go_enter Tryd.func6, Tryd.ntmps6
      go_wp2_with fail
      rw [HU.out]
      have c0 := K0.out.cell (j := 0) rfl
      have c1 := K0.out.cell (j := 1) rfl
      have c2 := K0.out.cell (j := 2) rfl
      have c3 := K0.out.cell (j := 3) rfl
      have c4 := K0.out.cell (j := 4) rfl
      have c5 := K0.out.cell (j := 5) rfl
      have c6 := K0.out.cell (j := 6) rfl
      have c7 := K0.out.cell (j := 7) rfl
      have c8 := K0.out.cell (j := 8) rfl
      have c9 := K0.out.cell (j := 9) rfl
      have c10 := K0.out.cell (j := 10) rfl
      have c11 := K0.out.cell (j := 11) rfl
      have n0 := N0.out.cell (j := 0) rfl
      have n1 := N0.out.cell (j := 1) rfl
      have n2 := N0.out.cell (j := 2) rfl
      have n3 := N0.out.cell (j := 3) rfl
      have n4 := N0.out.cell (j := 4) rfl
      have n5 := N0.out.cell (j := 5) rfl
      have n6 := N0.out.cell (j := 6) rfl
      go_wp2_with fail
      refine (specNum_any a _ true (by simp; try omega)).mono ?_
      rintro e w1 ⟨rfl, rfl⟩
      go_wp2_with fail
      refine (specNum_any 0 _ true (by simp; try omega)).mono ?_
      rintro e w1 ⟨rfl, rfl⟩
      go_wp2
      go_ret
      exact ⟨by rw [HV.out]; rfl, B0.out⟩
    obtain rfl : kp = [] := List.length_eq_zero_iff.1 (by rw [← KN.out]; exact hk0)
    subst hk0
    go_enter Tryd.func6, Tryd.ntmps6
    go_wp2_with fail
    rw [HU.out]
    have c0 := K0.out.cell (j := 0) rfl
    have c1 := K0.out.cell (j := 1) rfl
    have c2 := K0.out.cell (j := 2) rfl
    have c3 := K0.out.cell (j := 3) rfl
    have c4 := K0.out.cell (j := 4) rfl
    have c5 := K0.out.cell (j := 5) rfl
    have c6 := K0.out.cell (j := 6) rfl
    have c7 := K0.out.cell (j := 7) rfl
    have c8 := K0.out.cell (j := 8) rfl
    have c9 := K0.out.cell (j := 9) rfl
    have c10 := K0.out.cell (j := 10) rfl
    have c11 := K0.out.cell (j := 11) rfl
    have n0 := N0.out.cell (j := 0) rfl
    have n1 := N0.out.cell (j := 1) rfl
    have n2 := N0.out.cell (j := 2) rfl
    have n3 := N0.out.cell (j := 3) rfl
    have n4 := N0.out.cell (j := 4) rfl
    have n5 := N0.out.cell (j := 5) rfl
    have n6 := N0.out.cell (j := 6) rfl
    go_wp2_with fail
    refine (specNum_any a _ true (by simp; try omega)).mono ?_
    rintro e w1 ⟨rfl, rfl⟩
    go_wp2_with fail
    refine (specNum_any 0 _ true (by simp; try omega)).mono ?_
    rintro e w1 ⟨rfl, rfl⟩
    go_wp2_with fail
    clear c0 c1 c2 c3 c4 c5 c6 c7 c8 c9 c10 c11 n0 n1 n2 n3 n4 n5 n6
    refine wp_region_noPanic ?_
    refine wp_region_held_drew (S := fun v => v.cell? ⟨w.heap.size, 0, none⟩ = some (.int .i64 1)) (by kernel_rfl) ((K0.out.below (below_drew _)).cell (j := 0) rfl) (fun hHeld => ?_)
    simp only [List.size_toArray, List.length_cons, List.length_nil, Array.replicate_succ, Array.replicate_zero, Nat.reduceAdd, List.push_toArray, List.nil_append, List.cons_append]
    refine wpAnyH_take (i := 1) (v := (.pointer (some ⟨w.heap.size, 0, none⟩))) rfl (by kernel_rfl) (by kernel_rfl) (by kernel_rfl) (fun _ _ _ h => h) (Or.inl ⟨by rfl, ?_⟩) (by assumption) ?_
    · intro w hSw
      (try dsimp only at hSw)
      go_simp
    try simp only [List.getElem_toArray]
    try simp only [List.getElem_cons_succ]
    try simp only [List.getElem_cons_zero]
    try simp only [Act.put]
    try simp only [List.setIfInBounds_toArray]
    try simp only [List.set_cons_succ]
    try simp only [List.set_cons_zero]
    refine wpAnyH_take (i := 2) (v := (.int .i64 1)) rfl (by kernel_rfl) (by kernel_rfl) (by kernel_rfl) (fun _ _ _ h => h) (Or.inl ⟨by rfl, ?_⟩) (by assumption) ?_
    · intro w hSw
      (try dsimp only at hSw)
      go_simp
    try simp only [List.getElem_toArray]
    try simp only [List.getElem_cons_succ]
    try simp only [List.getElem_cons_zero]
    try simp only [Act.put]
    try simp only [List.setIfInBounds_toArray]
    try simp only [List.set_cons_succ]
    try simp only [List.set_cons_zero]
    have BD : Hid (Below U.heap.size U U.drew) := below_drew _
    generalize U.drew = v0 at *
    refine wpAnyH_ready (rs := [0]) (by kernel_rfl) (by simp) ?_
    refine AllReadyH.cons rfl (fun K1 hK => ?_) AllReadyH.nil
    go_simp
    refine (CW.out _).mono ?_
    rintro r v1 ⟨rfl, hk, hb⟩
    go_wp2_with fail
    have R1 := hid hk
    have BU1 := hid (BD.out.trans (hb.mono BD.out.size))
    clear hk hb BD
    refine hK.out _ _ ?_ (fun hHeld => ?_)
    · exact (K0.out.below BU1.out).cell (j := 0) rfl
    clear hK K1
    try simp only [List.getElem_toArray]
    try simp only [List.getElem_cons_succ]
    try simp only [List.getElem_cons_zero]
    try simp only [Act.put]
    try simp only [List.setIfInBounds_toArray]
    try simp only [List.set_cons_succ]
    try simp only [List.set_cons_zero]
    refine wpAnyH_take (i := 3) (v := (.pointer (some ⟨v0.heap.size, 1, none⟩))) rfl (by kernel_rfl) (by kernel_rfl) (by kernel_rfl) (fun _ _ _ h => h) (Or.inl ⟨by rfl, ?_⟩) (by assumption) ?_
    · intro w hSw
      (try dsimp only at hSw)
      go_simp
      all_goals (try omega)
    try simp only [List.getElem_toArray]
    try simp only [List.getElem_cons_succ]
    try simp only [List.getElem_cons_zero]
    try simp only [Act.put]
    try simp only [List.setIfInBounds_toArray]
    try simp only [List.set_cons_succ]
    try simp only [List.set_cons_zero]
    refine wpAnyH_ready (rs := [4]) (by kernel_rfl) (by simp) ?_
    refine AllReadyH.cons rfl (fun K1 hK => ?_) AllReadyH.nil
    have t0 : v1.cell? ⟨v0.heap.size, 1, none⟩ = some (.string (sw 1)) := R1.out.cell (j := 1) rfl
    go_simp
    try go_wp2_with fail
    refine hK.out _ _ ?_ (fun hHeld => ?_)
    · exact (K0.out.below BU1.out).cell (j := 0) rfl
    clear hK K1
    try simp only [List.getElem_toArray]
    try simp only [List.getElem_cons_succ]
    try simp only [List.getElem_cons_zero]
    try simp only [Act.put]
    try simp only [List.setIfInBounds_toArray]
    try simp only [List.set_cons_succ]
    try simp only [List.set_cons_zero]
    refine wpAnyH_take (i := 5) (v := (.string (sw 1))) rfl (by kernel_rfl) (by kernel_rfl) (by kernel_rfl) (fun _ _ _ h => h) (Or.inl ⟨by rfl, ?_⟩) (by assumption) ?_
    · intro w hSw
      (try dsimp only at hSw)
      go_simp
    try simp only [List.getElem_toArray]
    try simp only [List.getElem_cons_succ]
    try simp only [List.getElem_cons_zero]
    try simp only [Act.put]
    try simp only [List.setIfInBounds_toArray]
    try simp only [List.set_cons_succ]
    try simp only [List.set_cons_zero]
    refine wpAnyH_done (by kernel_rfl) ?_ _
    refine NoPanic.normal ?_
    clear t0 R1
    generalize v0.heap.size = h0 at *
    have sz0 := sw_size 1
    have sb : (⟨#[32]⟩ : ByteArray).size = 1 := rfl
    have c0 := (K0.out.below BU1.out).cell (j := 0) rfl
    have c1 := (K0.out.below BU1.out).cell (j := 1) rfl
    have c2 := (K0.out.below BU1.out).cell (j := 2) rfl
    have c3 := (K0.out.below BU1.out).cell (j := 3) rfl
    have c4 := (K0.out.below BU1.out).cell (j := 4) rfl
    have c5 := (K0.out.below BU1.out).cell (j := 5) rfl
    have c6 := (K0.out.below BU1.out).cell (j := 6) rfl
    have c7 := (K0.out.below BU1.out).cell (j := 7) rfl
    have c8 := (K0.out.below BU1.out).cell (j := 8) rfl
    have c9 := (K0.out.below BU1.out).cell (j := 9) rfl
    have c10 := (K0.out.below BU1.out).cell (j := 10) rfl
    have c11 := (K0.out.below BU1.out).cell (j := 11) rfl
    go_wp2_with fail
    refine (CN.out a _).mono ?_
    rintro r v2 ⟨rfl, hb⟩
    have BU2 := hid (BU1.out.trans (hb.mono BU1.out.size))
    clear hb c0 c1 c2 c3 c4 c5 c6 c7 c8 c9 c10 c11
    have sz2 := numS_size a
    have q4 : ¬ (9223372036854775807 < (sw 1 : ByteArray).size + (⟨#[32]⟩ : ByteArray).size) := by simp only [sb]; omega
    have q5 : ¬ (9223372036854775807 < (sw 1 ++ ⟨#[32]⟩ : ByteArray).size + (numS a).size) := by simp only [ByteArray.size_append, sb]; omega
    have c0 := (K0.out.below BU2.out).cell (j := 0) rfl
    have c1 := (K0.out.below BU2.out).cell (j := 1) rfl
    have c2 := (K0.out.below BU2.out).cell (j := 2) rfl
    have c3 := (K0.out.below BU2.out).cell (j := 3) rfl
    have c4 := (K0.out.below BU2.out).cell (j := 4) rfl
    have c5 := (K0.out.below BU2.out).cell (j := 5) rfl
    have c6 := (K0.out.below BU2.out).cell (j := 6) rfl
    have c7 := (K0.out.below BU2.out).cell (j := 7) rfl
    have c8 := (K0.out.below BU2.out).cell (j := 8) rfl
    have c9 := (K0.out.below BU2.out).cell (j := 9) rfl
    have c10 := (K0.out.below BU2.out).cell (j := 10) rfl
    have c11 := (K0.out.below BU2.out).cell (j := 11) rfl
    go_wp2_with fail
    clear c0 c1 c2 c3 c4 c5 c6 c7 c8 c9 c10 c11
    go_loopw [4, 6, 97] (fun x _ i v => x = .string (sw 1 ++ ⟨#[32]⟩ ++ numS a) ∧ i = .int .i64 0 ∧ Hid (Below U.heap.size U v)) (fun _ _ _ _ => 0)
    case atStart => exact ⟨rfl, rfl, BU2.out⟩
    case round =>
      obtain ⟨rfl, rfl, HB⟩ := hrel
      have HBW := hid (HBW0.out HB.out)
      have c0 := (K0.out.below HB.out).cell (j := 0) rfl
      have c1 := (K0.out.below HB.out).cell (j := 1) rfl
      have c2 := (K0.out.below HB.out).cell (j := 2) rfl
      have c3 := (K0.out.below HB.out).cell (j := 3) rfl
      have c4 := (K0.out.below HB.out).cell (j := 4) rfl
      have c5 := (K0.out.below HB.out).cell (j := 5) rfl
      have c6 := (K0.out.below HB.out).cell (j := 6) rfl
      have c7 := (K0.out.below HB.out).cell (j := 7) rfl
      have c8 := (K0.out.below HB.out).cell (j := 8) rfl
      have c9 := (K0.out.below HB.out).cell (j := 9) rfl
      have c10 := (K0.out.below HB.out).cell (j := 10) rfl
      have c11 := (K0.out.below HB.out).cell (j := 11) rfl
      go_wp2_with fail
      refine (CC.out _).mono ?_
      rintro r v8 ⟨rfl, hb⟩
      have HBX := hid (HBW0.out (HB.out.trans (hb.mono HB.out.size)))
      clear hb c0 c1 c2 c3 c4 c5 c6 c7 c8 c9 c10 c11
      cases hz : clOk kd ak ky vl lo hi mo bk with
      | false =>
        have e1 := clT_no hz
        have HV9 := hid (stT_no1 (S := ⟨1, a, 0, [], kd, ak, ky, vl, lo, hi, mo, bk⟩) (by rw [wr_1, hz]; rfl))
        clear hz
        rw [e1]
        go_wp2
        go_ret
        exact ⟨by rw [HV9.out]; rfl, HBX.out⟩
      | true =>
        have HV9 := hid (st_1 (a := a) HA0.out hz)
        have hne := clT_ne hz
        have h1 : ¬ ((clT kd ak ky vl lo hi mo bk).toList = []) := fun e => hne (wb_nil.1 e)
        have h2 : (clT kd ak ky vl lo hi mo bk).toList.isEmpty = false := by
          cases q : (clT kd ak ky vl lo hi mo bk).toList with
          | nil => exact absurd q h1
          | cons _ _ => rfl
        have hsz := clT_size kd ak ky vl lo hi mo bk
        clear hz hne
        generalize clT kd ak ky vl lo hi mo bk = tt at *
        have q91 : ¬ (9223372036854775807 < (sw 1 ++ ⟨#[32]⟩ ++ numS a : ByteArray).size + (⟨#[32]⟩ : ByteArray).size) := by simp only [ByteArray.size_append, sb]; omega
        have q92 : ¬ (9223372036854775807 < (sw 1 ++ ⟨#[32]⟩ ++ numS a ++ ⟨#[32]⟩ : ByteArray).size + tt.size) := by simp only [ByteArray.size_append, sb]; omega
        go_wp2
        go_ret
        exact ⟨by rw [HV9.out]; try rfl, HBX.out⟩
  by_cases hz : clZ kd ak ky vl lo hi mo bk = true
  case neg =>
    have HV := hid (st_z ⟨k, a, b, kp, kd, ak, ky, vl, lo, hi, mo, bk⟩ h1 (by simpa using hz))
    have hq := neq_askZ ak ky vl lo hi mo bk
    have hg := guard_ask .neq
    by_cases hkd : kd = 0
    · subst hkd
      have hz2 : akZ ak ky vl lo hi mo bk = false := by
        cases e : akZ ak ky vl lo hi mo bk with
        | false => rfl
        | true => exact absurd (by unfold clZ; rw [e]; rfl) hz
      rw [hz2] at hq
      clear hz hz2
      go_enter Tryd.func6, Tryd.ntmps6
      go_wp2_with fail
      rw [HU.out]
      have c0 := K0.out.cell (j := 0) rfl
      have c1 := K0.out.cell (j := 1) rfl
      have c2 := K0.out.cell (j := 2) rfl
      have c3 := K0.out.cell (j := 3) rfl
      have c4 := K0.out.cell (j := 4) rfl
      have c5 := K0.out.cell (j := 5) rfl
      have c6 := K0.out.cell (j := 6) rfl
      have c7 := K0.out.cell (j := 7) rfl
      have c8 := K0.out.cell (j := 8) rfl
      have c9 := K0.out.cell (j := 9) rfl
      have c10 := K0.out.cell (j := 10) rfl
      have c11 := K0.out.cell (j := 11) rfl
      have n0 := N0.out.cell (j := 0) rfl
      have n1 := N0.out.cell (j := 1) rfl
      have n2 := N0.out.cell (j := 2) rfl
      have n3 := N0.out.cell (j := 3) rfl
      have n4 := N0.out.cell (j := 4) rfl
      have n5 := N0.out.cell (j := 5) rfl
      have n6 := N0.out.cell (j := 6) rfl
      go_wp2_with fail
      refine (specNum_any a _ true (by simp; try omega)).mono ?_
      rintro e w1 ⟨rfl, rfl⟩
      go_wp2_with fail
      refine (specNum_any b _ true (by simp; try omega)).mono ?_
      rintro e w1 ⟨rfl, rfl⟩
      go_wp2
      go_ret
      exact ⟨by rw [HV.out]; rfl, B0.out⟩
    · clear hz hq hg
      go_enter Tryd.func6, Tryd.ntmps6
      go_wp2_with fail
      rw [HU.out]
      have c0 := K0.out.cell (j := 0) rfl
      have c1 := K0.out.cell (j := 1) rfl
      have c2 := K0.out.cell (j := 2) rfl
      have c3 := K0.out.cell (j := 3) rfl
      have c4 := K0.out.cell (j := 4) rfl
      have c5 := K0.out.cell (j := 5) rfl
      have c6 := K0.out.cell (j := 6) rfl
      have c7 := K0.out.cell (j := 7) rfl
      have c8 := K0.out.cell (j := 8) rfl
      have c9 := K0.out.cell (j := 9) rfl
      have c10 := K0.out.cell (j := 10) rfl
      have c11 := K0.out.cell (j := 11) rfl
      have n0 := N0.out.cell (j := 0) rfl
      have n1 := N0.out.cell (j := 1) rfl
      have n2 := N0.out.cell (j := 2) rfl
      have n3 := N0.out.cell (j := 3) rfl
      have n4 := N0.out.cell (j := 4) rfl
      have n5 := N0.out.cell (j := 5) rfl
      have n6 := N0.out.cell (j := 6) rfl
      go_wp2_with fail
      refine (specNum_any a _ true (by simp; try omega)).mono ?_
      rintro e w1 ⟨rfl, rfl⟩
      go_wp2_with fail
      refine (specNum_any b _ true (by simp; try omega)).mono ?_
      rintro e w1 ⟨rfl, rfl⟩
      go_wp2
      go_ret
      exact ⟨by rw [HV.out]; rfl, B0.out⟩
  have hq := neq_askZ ak ky vl lo hi mo bk
  have hg := guard_ask .neq
  obtain ⟨rfl, rfl, rfl, rfl, rfl, rfl, rfl, rfl⟩ := clZ_nil hz
  have hz2 : akZ 0 ⟨#[]⟩ ⟨#[]⟩ ⟨#[]⟩ ⟨#[]⟩ 0 false = true := akZ0
  rw [hz2] at hq
  clear hz hz2
  by_cases h7 : k = 7
  · subst h7
    go_enter Tryd.func6, Tryd.ntmps6
    go_wp2_with fail
    rw [HU.out]
    have c0 := K0.out.cell (j := 0) rfl
    have c1 := K0.out.cell (j := 1) rfl
    have c2 := K0.out.cell (j := 2) rfl
    have c3 := K0.out.cell (j := 3) rfl
    have c4 := K0.out.cell (j := 4) rfl
    have c5 := K0.out.cell (j := 5) rfl
    have c6 := K0.out.cell (j := 6) rfl
    have c7 := K0.out.cell (j := 7) rfl
    have c8 := K0.out.cell (j := 8) rfl
    have c9 := K0.out.cell (j := 9) rfl
    have c10 := K0.out.cell (j := 10) rfl
    have c11 := K0.out.cell (j := 11) rfl
    have n0 := N0.out.cell (j := 0) rfl
    have n1 := N0.out.cell (j := 1) rfl
    have n2 := N0.out.cell (j := 2) rfl
    have n3 := N0.out.cell (j := 3) rfl
    have n4 := N0.out.cell (j := 4) rfl
    have n5 := N0.out.cell (j := 5) rfl
    have n6 := N0.out.cell (j := 6) rfl
    go_wp2_with fail
    refine (specNum_any a _ true (by simp; try omega)).mono ?_
    rintro e w1 ⟨rfl, rfl⟩
    go_wp2_with fail
    refine (specNum_any b _ true (by simp; try omega)).mono ?_
    rintro e w1 ⟨rfl, rfl⟩
    go_wp2_with fail
    clear c0 c1 c2 c3 c4 c5 c6 c7 c8 c9 c10 c11 n0 n1 n2 n3 n4 n5 n6
    refine wp_region_noPanic ?_
    refine wp_region_held_drew (S := fun v => v.cell? ⟨w.heap.size, 0, none⟩ = some (.int .i64 7)) (by kernel_rfl) ((K0.out.below (below_drew _)).cell (j := 0) rfl) (fun hHeld => ?_)
    simp only [List.size_toArray, List.length_cons, List.length_nil, Array.replicate_succ, Array.replicate_zero, Nat.reduceAdd, List.push_toArray, List.nil_append, List.cons_append]
    refine wpAnyH_take (i := 1) (v := (.pointer (some ⟨w.heap.size, 0, none⟩))) rfl (by kernel_rfl) (by kernel_rfl) (by kernel_rfl) (fun _ _ _ h => h) (Or.inl ⟨by rfl, ?_⟩) (by assumption) ?_
    · intro w hSw
      (try dsimp only at hSw)
      go_simp
    try simp only [List.getElem_toArray]
    try simp only [List.getElem_cons_succ]
    try simp only [List.getElem_cons_zero]
    try simp only [Act.put]
    try simp only [List.setIfInBounds_toArray]
    try simp only [List.set_cons_succ]
    try simp only [List.set_cons_zero]
    refine wpAnyH_take (i := 2) (v := (.int .i64 7)) rfl (by kernel_rfl) (by kernel_rfl) (by kernel_rfl) (fun _ _ _ h => h) (Or.inl ⟨by rfl, ?_⟩) (by assumption) ?_
    · intro w hSw
      (try dsimp only at hSw)
      go_simp
    try simp only [List.getElem_toArray]
    try simp only [List.getElem_cons_succ]
    try simp only [List.getElem_cons_zero]
    try simp only [Act.put]
    try simp only [List.setIfInBounds_toArray]
    try simp only [List.set_cons_succ]
    try simp only [List.set_cons_zero]
    have BD : Hid (Below U.heap.size U U.drew) := below_drew _
    generalize U.drew = v0 at *
    refine wpAnyH_ready (rs := [0]) (by kernel_rfl) (by simp) ?_
    refine AllReadyH.cons rfl (fun K1 hK => ?_) AllReadyH.nil
    go_simp
    refine (CW.out _).mono ?_
    rintro r v1 ⟨rfl, hk, hb⟩
    go_wp2_with fail
    have R1 := hid hk
    have BU1 := hid (BD.out.trans (hb.mono BD.out.size))
    clear hk hb BD
    refine hK.out _ _ ?_ (fun hHeld => ?_)
    · exact (K0.out.below BU1.out).cell (j := 0) rfl
    clear hK K1
    try simp only [List.getElem_toArray]
    try simp only [List.getElem_cons_succ]
    try simp only [List.getElem_cons_zero]
    try simp only [Act.put]
    try simp only [List.setIfInBounds_toArray]
    try simp only [List.set_cons_succ]
    try simp only [List.set_cons_zero]
    refine wpAnyH_take (i := 3) (v := (.pointer (some ⟨v0.heap.size, 7, none⟩))) rfl (by kernel_rfl) (by kernel_rfl) (by kernel_rfl) (fun _ _ _ h => h) (Or.inl ⟨by rfl, ?_⟩) (by assumption) ?_
    · intro w hSw
      (try dsimp only at hSw)
      go_simp
      all_goals (try omega)
    try simp only [List.getElem_toArray]
    try simp only [List.getElem_cons_succ]
    try simp only [List.getElem_cons_zero]
    try simp only [Act.put]
    try simp only [List.setIfInBounds_toArray]
    try simp only [List.set_cons_succ]
    try simp only [List.set_cons_zero]
    refine wpAnyH_ready (rs := [4]) (by kernel_rfl) (by simp) ?_
    refine AllReadyH.cons rfl (fun K1 hK => ?_) AllReadyH.nil
    have t0 : v1.cell? ⟨v0.heap.size, 7, none⟩ = some (.string (sw 7)) := R1.out.cell (j := 7) rfl
    go_simp
    try go_wp2_with fail
    refine hK.out _ _ ?_ (fun hHeld => ?_)
    · exact (K0.out.below BU1.out).cell (j := 0) rfl
    clear hK K1
    try simp only [List.getElem_toArray]
    try simp only [List.getElem_cons_succ]
    try simp only [List.getElem_cons_zero]
    try simp only [Act.put]
    try simp only [List.setIfInBounds_toArray]
    try simp only [List.set_cons_succ]
    try simp only [List.set_cons_zero]
    refine wpAnyH_take (i := 5) (v := (.string (sw 7))) rfl (by kernel_rfl) (by kernel_rfl) (by kernel_rfl) (fun _ _ _ h => h) (Or.inl ⟨by rfl, ?_⟩) (by assumption) ?_
    · intro w hSw
      (try dsimp only at hSw)
      go_simp
    try simp only [List.getElem_toArray]
    try simp only [List.getElem_cons_succ]
    try simp only [List.getElem_cons_zero]
    try simp only [Act.put]
    try simp only [List.setIfInBounds_toArray]
    try simp only [List.set_cons_succ]
    try simp only [List.set_cons_zero]
    refine wpAnyH_done (by kernel_rfl) ?_ _
    refine NoPanic.normal ?_
    clear t0 R1
    generalize v0.heap.size = h0 at *
    have sz0 := sw_size 7
    have sb : (⟨#[32]⟩ : ByteArray).size = 1 := rfl
    have c0 := (K0.out.below BU1.out).cell (j := 0) rfl
    have c1 := (K0.out.below BU1.out).cell (j := 1) rfl
    have c2 := (K0.out.below BU1.out).cell (j := 2) rfl
    have c3 := (K0.out.below BU1.out).cell (j := 3) rfl
    have c4 := (K0.out.below BU1.out).cell (j := 4) rfl
    have c5 := (K0.out.below BU1.out).cell (j := 5) rfl
    have c6 := (K0.out.below BU1.out).cell (j := 6) rfl
    have c7 := (K0.out.below BU1.out).cell (j := 7) rfl
    have c8 := (K0.out.below BU1.out).cell (j := 8) rfl
    have c9 := (K0.out.below BU1.out).cell (j := 9) rfl
    have c10 := (K0.out.below BU1.out).cell (j := 10) rfl
    have c11 := (K0.out.below BU1.out).cell (j := 11) rfl
    go_wp2_with fail
    refine (CN.out a _).mono ?_
    rintro r v2 ⟨rfl, hb⟩
    have BU2 := hid (BU1.out.trans (hb.mono BU1.out.size))
    clear hb c0 c1 c2 c3 c4 c5 c6 c7 c8 c9 c10 c11
    have sz2 := numS_size a
    have q4 : ¬ (9223372036854775807 < (sw 7 : ByteArray).size + (⟨#[32]⟩ : ByteArray).size) := by simp only [sb]; omega
    have q5 : ¬ (9223372036854775807 < (sw 7 ++ ⟨#[32]⟩ : ByteArray).size + (numS a).size) := by simp only [ByteArray.size_append, sb]; omega
    have c0 := (K0.out.below BU2.out).cell (j := 0) rfl
    have c1 := (K0.out.below BU2.out).cell (j := 1) rfl
    have c2 := (K0.out.below BU2.out).cell (j := 2) rfl
    have c3 := (K0.out.below BU2.out).cell (j := 3) rfl
    have c4 := (K0.out.below BU2.out).cell (j := 4) rfl
    have c5 := (K0.out.below BU2.out).cell (j := 5) rfl
    have c6 := (K0.out.below BU2.out).cell (j := 6) rfl
    have c7 := (K0.out.below BU2.out).cell (j := 7) rfl
    have c8 := (K0.out.below BU2.out).cell (j := 8) rfl
    have c9 := (K0.out.below BU2.out).cell (j := 9) rfl
    have c10 := (K0.out.below BU2.out).cell (j := 10) rfl
    have c11 := (K0.out.below BU2.out).cell (j := 11) rfl
    go_wp2_with fail
    refine (CN.out b _).mono ?_
    rintro r v3 ⟨rfl, hb⟩
    have BU3 := hid (BU2.out.trans (hb.mono BU2.out.size))
    clear hb c0 c1 c2 c3 c4 c5 c6 c7 c8 c9 c10 c11
    have sz3 := numS_size b
    have q6 : ¬ (9223372036854775807 < (sw 7 ++ ⟨#[32]⟩ ++ numS a : ByteArray).size + (⟨#[32]⟩ : ByteArray).size) := by simp only [ByteArray.size_append, sb]; omega
    have q7 : ¬ (9223372036854775807 < (sw 7 ++ ⟨#[32]⟩ ++ numS a ++ ⟨#[32]⟩ : ByteArray).size + (numS b).size) := by simp only [ByteArray.size_append, sb]; omega
    have c0 := (K0.out.below BU3.out).cell (j := 0) rfl
    have c1 := (K0.out.below BU3.out).cell (j := 1) rfl
    have c2 := (K0.out.below BU3.out).cell (j := 2) rfl
    have c3 := (K0.out.below BU3.out).cell (j := 3) rfl
    have c4 := (K0.out.below BU3.out).cell (j := 4) rfl
    have c5 := (K0.out.below BU3.out).cell (j := 5) rfl
    have c6 := (K0.out.below BU3.out).cell (j := 6) rfl
    have c7 := (K0.out.below BU3.out).cell (j := 7) rfl
    have c8 := (K0.out.below BU3.out).cell (j := 8) rfl
    have c9 := (K0.out.below BU3.out).cell (j := 9) rfl
    have c10 := (K0.out.below BU3.out).cell (j := 10) rfl
    have c11 := (K0.out.below BU3.out).cell (j := 11) rfl
    go_wp2_with fail
    clear c0 c1 c2 c3 c4 c5 c6 c7 c8 c9 c10 c11
    go_loopw [4, 6, 97] (fun x _ i v => ∃ (m : Nat) (o : ByteArray), x = .string o ∧ i = .int .i64 m ∧ m ≤ kn ∧ Hid (Below U.heap.size U v) ∧ Hid (o = ((kp.map numS).take m).foldl (fun o y => o ++ blk ++ y) (sw 7 ++ ⟨#[32]⟩ ++ numS a ++ ⟨#[32]⟩ ++ numS b)) ∧ Hid (o.size ≤ 60 + 20 * m) ∧ Hid (∀ y ∈ kp.take m, 0 ≤ y ∧ y ≤ 1099511627775)) (fun _ _ i _ => kn - (intOf i).toNat)
    case atStart => exact ⟨0, _, rfl, rfl, Nat.zero_le _, BU3.out, rfl, by show (sw 7 ++ ⟨#[32]⟩ ++ numS a ++ ⟨#[32]⟩ ++ numS b : ByteArray).size ≤ _; simp only [ByteArray.size_append, sb]; omega, fun y hy => by simp at hy⟩
    case round =>
      obtain ⟨m, o, rfl, rfl, hm, HB, HQ, HZ, HA⟩ := hrel
      by_cases hlt : m < kn
      · have hlt' : (m : Int) < (kn : Int) := by omega
        obtain ⟨b', off, rfl, -, -, hcell⟩ := (Ir.below (Ir.below H0.out HB.out) (Below.refl _ _)).at (by omega : 0 < kn)
        have hc := hcell m hlt
        have hml : m < kp.length := by rw [← KN.out]; exact hlt
        have HT := hid (take_numS kp m hml)
        have HTA : Hid (kp.take (m + 1) = kp.take m ++ [iAt kp m]) := by
          show _ = _
          rw [List.take_succ_eq_append_getElem hml]
          simp [iAt, hml]
        have HM : Hid (iAt kp m ∈ kp) := by
          show _ ∈ _
          simp [iAt, hml]
        clear hcell
        generalize iAt kp m = y at *
        by_cases hy : 0 ≤ y ∧ y ≤ 1099511627775
        · have HY := hid hy
          have sz := HZ.out
          have q1 : ¬ (9223372036854775807 < o.size + (⟨#[32]⟩ : ByteArray).size) := by simp only [sb]; omega
          go_wp2_with fail
          refine (specNum_any y _ true (decide_eq_true HY.out).symm).mono ?_
          rintro e w1 ⟨rfl, rfl⟩
          go_wp2_with fail
          refine (CN.out y _).mono ?_
          rintro r v9 ⟨rfl, hb⟩
          have HB9 := hid (HB.out.trans (hb.mono HB.out.size))
          have sy := numS_size y
          have q2 : ¬ (9223372036854775807 < (o ++ ⟨#[32]⟩ : ByteArray).size + (numS y).size) := by simp only [ByteArray.size_append, sb]; omega
          have HQ9 : Hid (o ++ ⟨#[32]⟩ ++ numS y = ((kp.map numS).take (m + 1)).foldl (fun o y => o ++ blk ++ y) (sw 7 ++ ⟨#[32]⟩ ++ numS a ++ ⟨#[32]⟩ ++ numS b)) := by
            show _ = _
            rw [HT.out, List.foldl_append, ← HQ.out]
            rfl
          have HZ9 : Hid ((o ++ ⟨#[32]⟩ ++ numS y : ByteArray).size ≤ 60 + 20 * (m + 1)) := by
            show _ ≤ _
            simp only [ByteArray.size_append, sb]
            omega
          have HA9 : Hid (∀ z ∈ kp.take (m + 1), 0 ≤ z ∧ z ≤ 1099511627775) := by
            show ∀ z ∈ _, _
            rw [HTA.out]
            intro z hz
            rcases List.mem_append.1 hz with hz | hz
            · exact HA.out z hz
            · rw [List.mem_singleton.1 hz]; exact HY.out
          clear hb HB HQ HZ HA HT HTA HM hc sy sz hy
          go_wp2
          go_roundw
          case rel => exact ⟨m + 1, _, rfl, by go_num, by omega, HB9.out, HQ9.out, HZ9.out, HA9.out⟩
          case measure => simp [intOf]; omega
        · have HV9 := hid (st_7no (a := a) (b := b) HM.out hy)
          have HBW := hid (HBW0.out HB.out)
          have HY := hid hy
          clear hy
          go_wp2_with fail
          refine (specNum_any y _ false (decide_eq_false HY.out).symm).mono ?_
          rintro e w1 ⟨rfl, rfl⟩
          go_wp2
          go_ret
          exact ⟨by rw [HV9.out]; rfl, HBW.out⟩
      · obtain rfl : m = kn := by omega
        have HE : Hid ((kp.map numS).take m = kp.map numS) := List.take_of_length_le (by rw [List.length_map, KN.out]; omega)
        have HEA : Hid (kp.take m = kp) := List.take_of_length_le (by rw [KN.out]; omega)
        rw [HE.out] at HQ
        rw [HEA.out] at HA
        have HBW := hid (HBW0.out HB.out)
        have c0 := (K0.out.below HB.out).cell (j := 0) rfl
        have c1 := (K0.out.below HB.out).cell (j := 1) rfl
        have c2 := (K0.out.below HB.out).cell (j := 2) rfl
        have c3 := (K0.out.below HB.out).cell (j := 3) rfl
        have c4 := (K0.out.below HB.out).cell (j := 4) rfl
        have c5 := (K0.out.below HB.out).cell (j := 5) rfl
        have c6 := (K0.out.below HB.out).cell (j := 6) rfl
        have c7 := (K0.out.below HB.out).cell (j := 7) rfl
        have c8 := (K0.out.below HB.out).cell (j := 8) rfl
        have c9 := (K0.out.below HB.out).cell (j := 9) rfl
        have c10 := (K0.out.below HB.out).cell (j := 10) rfl
        have c11 := (K0.out.below HB.out).cell (j := 11) rfl
        have HR := hid (st_7 HA0.out HB0.out HA.out)
        go_wp2
        go_ret
        exact ⟨by rw [HR.out, HQ.out]; try rfl, HBW.out⟩
  by_cases hb0 : b = 0
  case neg =>
    have HV := hid (st_bk ⟨k, a, b, kp, 0, 0, ⟨#[]⟩, ⟨#[]⟩, ⟨#[]⟩, ⟨#[]⟩, 0, false⟩ h7 (.inl hb0))
    go_enter Tryd.func6, Tryd.ntmps6
    go_wp2_with fail
    rw [HU.out]
    have c0 := K0.out.cell (j := 0) rfl
    have c1 := K0.out.cell (j := 1) rfl
    have c2 := K0.out.cell (j := 2) rfl
    have c3 := K0.out.cell (j := 3) rfl
    have c4 := K0.out.cell (j := 4) rfl
    have c5 := K0.out.cell (j := 5) rfl
    have c6 := K0.out.cell (j := 6) rfl
    have c7 := K0.out.cell (j := 7) rfl
    have c8 := K0.out.cell (j := 8) rfl
    have c9 := K0.out.cell (j := 9) rfl
    have c10 := K0.out.cell (j := 10) rfl
    have c11 := K0.out.cell (j := 11) rfl
    have n0 := N0.out.cell (j := 0) rfl
    have n1 := N0.out.cell (j := 1) rfl
    have n2 := N0.out.cell (j := 2) rfl
    have n3 := N0.out.cell (j := 3) rfl
    have n4 := N0.out.cell (j := 4) rfl
    have n5 := N0.out.cell (j := 5) rfl
    have n6 := N0.out.cell (j := 6) rfl
    go_wp2_with fail
    refine (specNum_any a _ true (by simp; try omega)).mono ?_
    rintro e w1 ⟨rfl, rfl⟩
    go_wp2_with fail
    refine (specNum_any b _ true (by simp; try omega)).mono ?_
    rintro e w1 ⟨rfl, rfl⟩
    go_wp2
    go_ret
    exact ⟨by rw [HV.out]; rfl, B0.out⟩
  subst hb0
  by_cases hk0 : kn = 0
  case neg =>
    have HV := hid (st_bk ⟨k, a, 0, kp, 0, 0, ⟨#[]⟩, ⟨#[]⟩, ⟨#[]⟩, ⟨#[]⟩, 0, false⟩ h7 (.inr (fun e => hk0 (by have e' : kp = [] := e; rw [KN.out, e']; rfl))))
    have hk1 : (0 : Int) < (kn : Int) := by omega
    go_enter Tryd.func6, Tryd.ntmps6
    go_wp2_with fail
    rw [HU.out]
    have c0 := K0.out.cell (j := 0) rfl
    have c1 := K0.out.cell (j := 1) rfl
    have c2 := K0.out.cell (j := 2) rfl
    have c3 := K0.out.cell (j := 3) rfl
    have c4 := K0.out.cell (j := 4) rfl
    have c5 := K0.out.cell (j := 5) rfl
    have c6 := K0.out.cell (j := 6) rfl
    have c7 := K0.out.cell (j := 7) rfl
    have c8 := K0.out.cell (j := 8) rfl
    have c9 := K0.out.cell (j := 9) rfl
    have c10 := K0.out.cell (j := 10) rfl
    have c11 := K0.out.cell (j := 11) rfl
    have n0 := N0.out.cell (j := 0) rfl
    have n1 := N0.out.cell (j := 1) rfl
    have n2 := N0.out.cell (j := 2) rfl
    have n3 := N0.out.cell (j := 3) rfl
    have n4 := N0.out.cell (j := 4) rfl
    have n5 := N0.out.cell (j := 5) rfl
    have n6 := N0.out.cell (j := 6) rfl
    go_wp2_with fail
    refine (specNum_any a _ true (by simp; try omega)).mono ?_
    rintro e w1 ⟨rfl, rfl⟩
    go_wp2_with fail
    refine (specNum_any 0 _ true (by simp; try omega)).mono ?_
    rintro e w1 ⟨rfl, rfl⟩
    go_wp2
    go_ret
    exact ⟨by rw [HV.out]; rfl, B0.out⟩
  obtain rfl : kp = [] := List.length_eq_zero_iff.1 (by rw [← KN.out]; exact hk0)
  subst hk0
  by_cases h5 : k = 5
  · subst h5
    by_cases ha0 : a = 0
    case neg =>
      have HV := hid (st_5a ⟨5, a, 0, [], 0, 0, ⟨#[]⟩, ⟨#[]⟩, ⟨#[]⟩, ⟨#[]⟩, 0, false⟩ rfl ha0)
      go_enter Tryd.func6, Tryd.ntmps6
      go_wp2_with fail
      rw [HU.out]
      have c0 := K0.out.cell (j := 0) rfl
      have c1 := K0.out.cell (j := 1) rfl
      have c2 := K0.out.cell (j := 2) rfl
      have c3 := K0.out.cell (j := 3) rfl
      have c4 := K0.out.cell (j := 4) rfl
      have c5 := K0.out.cell (j := 5) rfl
      have c6 := K0.out.cell (j := 6) rfl
      have c7 := K0.out.cell (j := 7) rfl
      have c8 := K0.out.cell (j := 8) rfl
      have c9 := K0.out.cell (j := 9) rfl
      have c10 := K0.out.cell (j := 10) rfl
      have c11 := K0.out.cell (j := 11) rfl
      have n0 := N0.out.cell (j := 0) rfl
      have n1 := N0.out.cell (j := 1) rfl
      have n2 := N0.out.cell (j := 2) rfl
      have n3 := N0.out.cell (j := 3) rfl
      have n4 := N0.out.cell (j := 4) rfl
      have n5 := N0.out.cell (j := 5) rfl
      have n6 := N0.out.cell (j := 6) rfl
      go_wp2_with fail
      refine (specNum_any a _ true (by simp; try omega)).mono ?_
      rintro e w1 ⟨rfl, rfl⟩
      go_wp2_with fail
      refine (specNum_any 0 _ true (by simp; try omega)).mono ?_
      rintro e w1 ⟨rfl, rfl⟩
      go_wp2
      go_ret
      exact ⟨by rw [HV.out]; rfl, B0.out⟩
    subst ha0
    go_enter Tryd.func6, Tryd.ntmps6
    go_wp2_with fail
    rw [HU.out]
    have c0 := K0.out.cell (j := 0) rfl
    have c1 := K0.out.cell (j := 1) rfl
    have c2 := K0.out.cell (j := 2) rfl
    have c3 := K0.out.cell (j := 3) rfl
    have c4 := K0.out.cell (j := 4) rfl
    have c5 := K0.out.cell (j := 5) rfl
    have c6 := K0.out.cell (j := 6) rfl
    have c7 := K0.out.cell (j := 7) rfl
    have c8 := K0.out.cell (j := 8) rfl
    have c9 := K0.out.cell (j := 9) rfl
    have c10 := K0.out.cell (j := 10) rfl
    have c11 := K0.out.cell (j := 11) rfl
    have n0 := N0.out.cell (j := 0) rfl
    have n1 := N0.out.cell (j := 1) rfl
    have n2 := N0.out.cell (j := 2) rfl
    have n3 := N0.out.cell (j := 3) rfl
    have n4 := N0.out.cell (j := 4) rfl
    have n5 := N0.out.cell (j := 5) rfl
    have n6 := N0.out.cell (j := 6) rfl
    go_wp2_with fail
    refine (specNum_any 0 _ true (by simp; try omega)).mono ?_
    rintro e w1 ⟨rfl, rfl⟩
    go_wp2_with fail
    refine (specNum_any 0 _ true (by simp; try omega)).mono ?_
    rintro e w1 ⟨rfl, rfl⟩
    go_wp2_with fail
    clear c0 c1 c2 c3 c4 c5 c6 c7 c8 c9 c10 c11 n0 n1 n2 n3 n4 n5 n6
    refine wp_region_noPanic ?_
    refine wp_region_held_drew (S := fun v => v.cell? ⟨w.heap.size, 0, none⟩ = some (.int .i64 5)) (by kernel_rfl) ((K0.out.below (below_drew _)).cell (j := 0) rfl) (fun hHeld => ?_)
    simp only [List.size_toArray, List.length_cons, List.length_nil, Array.replicate_succ, Array.replicate_zero, Nat.reduceAdd, List.push_toArray, List.nil_append, List.cons_append]
    refine wpAnyH_take (i := 1) (v := (.pointer (some ⟨w.heap.size, 0, none⟩))) rfl (by kernel_rfl) (by kernel_rfl) (by kernel_rfl) (fun _ _ _ h => h) (Or.inl ⟨by rfl, ?_⟩) (by assumption) ?_
    · intro w hSw
      (try dsimp only at hSw)
      go_simp
    try simp only [List.getElem_toArray]
    try simp only [List.getElem_cons_succ]
    try simp only [List.getElem_cons_zero]
    try simp only [Act.put]
    try simp only [List.setIfInBounds_toArray]
    try simp only [List.set_cons_succ]
    try simp only [List.set_cons_zero]
    refine wpAnyH_take (i := 2) (v := (.int .i64 5)) rfl (by kernel_rfl) (by kernel_rfl) (by kernel_rfl) (fun _ _ _ h => h) (Or.inl ⟨by rfl, ?_⟩) (by assumption) ?_
    · intro w hSw
      (try dsimp only at hSw)
      go_simp
    try simp only [List.getElem_toArray]
    try simp only [List.getElem_cons_succ]
    try simp only [List.getElem_cons_zero]
    try simp only [Act.put]
    try simp only [List.setIfInBounds_toArray]
    try simp only [List.set_cons_succ]
    try simp only [List.set_cons_zero]
    have BD : Hid (Below U.heap.size U U.drew) := below_drew _
    generalize U.drew = v0 at *
    refine wpAnyH_ready (rs := [0]) (by kernel_rfl) (by simp) ?_
    refine AllReadyH.cons rfl (fun K1 hK => ?_) AllReadyH.nil
    go_simp
    refine (CW.out _).mono ?_
    rintro r v1 ⟨rfl, hk, hb⟩
    go_wp2_with fail
    have R1 := hid hk
    have BU1 := hid (BD.out.trans (hb.mono BD.out.size))
    clear hk hb BD
    refine hK.out _ _ ?_ (fun hHeld => ?_)
    · exact (K0.out.below BU1.out).cell (j := 0) rfl
    clear hK K1
    try simp only [List.getElem_toArray]
    try simp only [List.getElem_cons_succ]
    try simp only [List.getElem_cons_zero]
    try simp only [Act.put]
    try simp only [List.setIfInBounds_toArray]
    try simp only [List.set_cons_succ]
    try simp only [List.set_cons_zero]
    refine wpAnyH_take (i := 3) (v := (.pointer (some ⟨v0.heap.size, 5, none⟩))) rfl (by kernel_rfl) (by kernel_rfl) (by kernel_rfl) (fun _ _ _ h => h) (Or.inl ⟨by rfl, ?_⟩) (by assumption) ?_
    · intro w hSw
      (try dsimp only at hSw)
      go_simp
      all_goals (try omega)
    try simp only [List.getElem_toArray]
    try simp only [List.getElem_cons_succ]
    try simp only [List.getElem_cons_zero]
    try simp only [Act.put]
    try simp only [List.setIfInBounds_toArray]
    try simp only [List.set_cons_succ]
    try simp only [List.set_cons_zero]
    refine wpAnyH_ready (rs := [4]) (by kernel_rfl) (by simp) ?_
    refine AllReadyH.cons rfl (fun K1 hK => ?_) AllReadyH.nil
    have t0 : v1.cell? ⟨v0.heap.size, 5, none⟩ = some (.string (sw 5)) := R1.out.cell (j := 5) rfl
    go_simp
    try go_wp2_with fail
    refine hK.out _ _ ?_ (fun hHeld => ?_)
    · exact (K0.out.below BU1.out).cell (j := 0) rfl
    clear hK K1
    try simp only [List.getElem_toArray]
    try simp only [List.getElem_cons_succ]
    try simp only [List.getElem_cons_zero]
    try simp only [Act.put]
    try simp only [List.setIfInBounds_toArray]
    try simp only [List.set_cons_succ]
    try simp only [List.set_cons_zero]
    refine wpAnyH_take (i := 5) (v := (.string (sw 5))) rfl (by kernel_rfl) (by kernel_rfl) (by kernel_rfl) (fun _ _ _ h => h) (Or.inl ⟨by rfl, ?_⟩) (by assumption) ?_
    · intro w hSw
      (try dsimp only at hSw)
      go_simp
    try simp only [List.getElem_toArray]
    try simp only [List.getElem_cons_succ]
    try simp only [List.getElem_cons_zero]
    try simp only [Act.put]
    try simp only [List.setIfInBounds_toArray]
    try simp only [List.set_cons_succ]
    try simp only [List.set_cons_zero]
    refine wpAnyH_done (by kernel_rfl) ?_ _
    refine NoPanic.normal ?_
    clear t0 R1
    generalize v0.heap.size = h0 at *
    have sz0 := sw_size 5
    have sb : (⟨#[32]⟩ : ByteArray).size = 1 := rfl
    have c0 := (K0.out.below BU1.out).cell (j := 0) rfl
    have c1 := (K0.out.below BU1.out).cell (j := 1) rfl
    have c2 := (K0.out.below BU1.out).cell (j := 2) rfl
    have c3 := (K0.out.below BU1.out).cell (j := 3) rfl
    have c4 := (K0.out.below BU1.out).cell (j := 4) rfl
    have c5 := (K0.out.below BU1.out).cell (j := 5) rfl
    have c6 := (K0.out.below BU1.out).cell (j := 6) rfl
    have c7 := (K0.out.below BU1.out).cell (j := 7) rfl
    have c8 := (K0.out.below BU1.out).cell (j := 8) rfl
    have c9 := (K0.out.below BU1.out).cell (j := 9) rfl
    have c10 := (K0.out.below BU1.out).cell (j := 10) rfl
    have c11 := (K0.out.below BU1.out).cell (j := 11) rfl
    go_wp2_with fail
    clear c0 c1 c2 c3 c4 c5 c6 c7 c8 c9 c10 c11
    go_loopw [4, 6, 97] (fun x _ i v => x = .string (sw 5) ∧ i = .int .i64 0 ∧ Hid (Below U.heap.size U v)) (fun _ _ _ _ => 0)
    case atStart => exact ⟨rfl, rfl, BU1.out⟩
    case round =>
      obtain ⟨rfl, rfl, HB⟩ := hrel
      have HBW := hid (HBW0.out HB.out)
      have c0 := (K0.out.below HB.out).cell (j := 0) rfl
      have c1 := (K0.out.below HB.out).cell (j := 1) rfl
      have c2 := (K0.out.below HB.out).cell (j := 2) rfl
      have c3 := (K0.out.below HB.out).cell (j := 3) rfl
      have c4 := (K0.out.below HB.out).cell (j := 4) rfl
      have c5 := (K0.out.below HB.out).cell (j := 5) rfl
      have c6 := (K0.out.below HB.out).cell (j := 6) rfl
      have c7 := (K0.out.below HB.out).cell (j := 7) rfl
      have c8 := (K0.out.below HB.out).cell (j := 8) rfl
      have c9 := (K0.out.below HB.out).cell (j := 9) rfl
      have c10 := (K0.out.below HB.out).cell (j := 10) rfl
      have c11 := (K0.out.below HB.out).cell (j := 11) rfl
      have HR := hid (st_5)
      go_wp2
      go_ret
      exact ⟨by rw [HR.out]; try rfl, HBW.out⟩
  obtain ⟨n, rfl⟩ : ∃ n : Nat, k = n := ⟨k.toNat, by omega⟩
  have hn : n < 10 := by omega
  have hn' : (n : Int) < 10 := by omega
  have hn1 : 1 ≤ (n : Int) := by omega
  have hn9 : (n : Int) ≤ 9 := by omega
  go_enter Tryd.func6, Tryd.ntmps6
  go_wp2_with fail
  rw [HU.out]
  have c0 := K0.out.cell (j := 0) rfl
  have c1 := K0.out.cell (j := 1) rfl
  have c2 := K0.out.cell (j := 2) rfl
  have c3 := K0.out.cell (j := 3) rfl
  have c4 := K0.out.cell (j := 4) rfl
  have c5 := K0.out.cell (j := 5) rfl
  have c6 := K0.out.cell (j := 6) rfl
  have c7 := K0.out.cell (j := 7) rfl
  have c8 := K0.out.cell (j := 8) rfl
  have c9 := K0.out.cell (j := 9) rfl
  have c10 := K0.out.cell (j := 10) rfl
  have c11 := K0.out.cell (j := 11) rfl
  have n0 := N0.out.cell (j := 0) rfl
  have n1 := N0.out.cell (j := 1) rfl
  have n2 := N0.out.cell (j := 2) rfl
  have n3 := N0.out.cell (j := 3) rfl
  have n4 := N0.out.cell (j := 4) rfl
  have n5 := N0.out.cell (j := 5) rfl
  have n6 := N0.out.cell (j := 6) rfl
  go_wp2_with fail
  refine (specNum_any a _ true (by simp; try omega)).mono ?_
  rintro e w1 ⟨rfl, rfl⟩
  go_wp2_with fail
  refine (specNum_any 0 _ true (by simp; try omega)).mono ?_
  rintro e w1 ⟨rfl, rfl⟩
  go_wp2_with fail
  clear c0 c1 c2 c3 c4 c5 c6 c7 c8 c9 c10 c11 n0 n1 n2 n3 n4 n5 n6
  refine wp_region_noPanic ?_
  refine wp_region_held_drew (S := fun v => v.cell? ⟨w.heap.size, 0, none⟩ = some (.int .i64 (n : Int))) (by kernel_rfl) ((K0.out.below (below_drew _)).cell (j := 0) rfl) (fun hHeld => ?_)
  simp only [List.size_toArray, List.length_cons, List.length_nil, Array.replicate_succ, Array.replicate_zero, Nat.reduceAdd, List.push_toArray, List.nil_append, List.cons_append]
  refine wpAnyH_take (i := 1) (v := (.pointer (some ⟨w.heap.size, 0, none⟩))) rfl (by kernel_rfl) (by kernel_rfl) (by kernel_rfl) (fun _ _ _ h => h) (Or.inl ⟨by rfl, ?_⟩) (by assumption) ?_
  · intro w hSw
    (try dsimp only at hSw)
    go_simp
  try simp only [List.getElem_toArray]
  try simp only [List.getElem_cons_succ]
  try simp only [List.getElem_cons_zero]
  try simp only [Act.put]
  try simp only [List.setIfInBounds_toArray]
  try simp only [List.set_cons_succ]
  try simp only [List.set_cons_zero]
  refine wpAnyH_take (i := 2) (v := (.int .i64 (n : Int))) rfl (by kernel_rfl) (by kernel_rfl) (by kernel_rfl) (fun _ _ _ h => h) (Or.inl ⟨by rfl, ?_⟩) (by assumption) ?_
  · intro w hSw
    (try dsimp only at hSw)
    go_simp
  try simp only [List.getElem_toArray]
  try simp only [List.getElem_cons_succ]
  try simp only [List.getElem_cons_zero]
  try simp only [Act.put]
  try simp only [List.setIfInBounds_toArray]
  try simp only [List.set_cons_succ]
  try simp only [List.set_cons_zero]
  have BD : Hid (Below U.heap.size U U.drew) := below_drew _
  generalize U.drew = v0 at *
  refine wpAnyH_ready (rs := [0]) (by kernel_rfl) (by simp) ?_
  refine AllReadyH.cons rfl (fun K1 hK => ?_) AllReadyH.nil
  go_simp
  refine (CW.out _).mono ?_
  rintro r v1 ⟨rfl, hk, hb⟩
  go_wp2_with fail
  have R1 := hid hk
  have BU1 := hid (BD.out.trans (hb.mono BD.out.size))
  clear hk hb BD
  refine hK.out _ _ ?_ (fun hHeld => ?_)
  · exact (K0.out.below BU1.out).cell (j := 0) rfl
  clear hK K1
  try simp only [List.getElem_toArray]
  try simp only [List.getElem_cons_succ]
  try simp only [List.getElem_cons_zero]
  try simp only [Act.put]
  try simp only [List.setIfInBounds_toArray]
  try simp only [List.set_cons_succ]
  try simp only [List.set_cons_zero]
  refine wpAnyH_take (i := 3) (v := (.pointer (some ⟨v0.heap.size, n, none⟩))) rfl (by kernel_rfl) (by kernel_rfl) (by kernel_rfl) (fun _ _ _ h => h) (Or.inl ⟨by rfl, ?_⟩) (by assumption) ?_
  · intro w hSw
    (try dsimp only at hSw)
    go_simp
    all_goals (try omega)
  try simp only [List.getElem_toArray]
  try simp only [List.getElem_cons_succ]
  try simp only [List.getElem_cons_zero]
  try simp only [Act.put]
  try simp only [List.setIfInBounds_toArray]
  try simp only [List.set_cons_succ]
  try simp only [List.set_cons_zero]
  refine wpAnyH_ready (rs := [4]) (by kernel_rfl) (by simp) ?_
  refine AllReadyH.cons rfl (fun K1 hK => ?_) AllReadyH.nil
  have t0 : v1.cell? ⟨v0.heap.size, n, none⟩ = some (.string (sw (n : Int))) := R1.out.cell (j := n) (sw_at hn)
  go_simp
  try go_wp2_with fail
  refine hK.out _ _ ?_ (fun hHeld => ?_)
  · exact (K0.out.below BU1.out).cell (j := 0) rfl
  clear hK K1
  try simp only [List.getElem_toArray]
  try simp only [List.getElem_cons_succ]
  try simp only [List.getElem_cons_zero]
  try simp only [Act.put]
  try simp only [List.setIfInBounds_toArray]
  try simp only [List.set_cons_succ]
  try simp only [List.set_cons_zero]
  refine wpAnyH_take (i := 5) (v := (.string (sw (n : Int)))) rfl (by kernel_rfl) (by kernel_rfl) (by kernel_rfl) (fun _ _ _ h => h) (Or.inl ⟨by rfl, ?_⟩) (by assumption) ?_
  · intro w hSw
    (try dsimp only at hSw)
    go_simp
  try simp only [List.getElem_toArray]
  try simp only [List.getElem_cons_succ]
  try simp only [List.getElem_cons_zero]
  try simp only [Act.put]
  try simp only [List.setIfInBounds_toArray]
  try simp only [List.set_cons_succ]
  try simp only [List.set_cons_zero]
  refine wpAnyH_done (by kernel_rfl) ?_ _
  refine NoPanic.normal ?_
  clear t0 R1
  generalize v0.heap.size = h0 at *
  have sz0 := sw_size (n : Int)
  have sb : (⟨#[32]⟩ : ByteArray).size = 1 := rfl
  have c0 := (K0.out.below BU1.out).cell (j := 0) rfl
  have c1 := (K0.out.below BU1.out).cell (j := 1) rfl
  have c2 := (K0.out.below BU1.out).cell (j := 2) rfl
  have c3 := (K0.out.below BU1.out).cell (j := 3) rfl
  have c4 := (K0.out.below BU1.out).cell (j := 4) rfl
  have c5 := (K0.out.below BU1.out).cell (j := 5) rfl
  have c6 := (K0.out.below BU1.out).cell (j := 6) rfl
  have c7 := (K0.out.below BU1.out).cell (j := 7) rfl
  have c8 := (K0.out.below BU1.out).cell (j := 8) rfl
  have c9 := (K0.out.below BU1.out).cell (j := 9) rfl
  have c10 := (K0.out.below BU1.out).cell (j := 10) rfl
  have c11 := (K0.out.below BU1.out).cell (j := 11) rfl
  go_wp2_with fail
  refine (CN.out a _).mono ?_
  rintro r v2 ⟨rfl, hb⟩
  have BU2 := hid (BU1.out.trans (hb.mono BU1.out.size))
  clear hb c0 c1 c2 c3 c4 c5 c6 c7 c8 c9 c10 c11
  have sz2 := numS_size a
  have q4 : ¬ (9223372036854775807 < (sw (n : Int) : ByteArray).size + (⟨#[32]⟩ : ByteArray).size) := by simp only [sb]; omega
  have q5 : ¬ (9223372036854775807 < (sw (n : Int) ++ ⟨#[32]⟩ : ByteArray).size + (numS a).size) := by simp only [ByteArray.size_append, sb]; omega
  have c0 := (K0.out.below BU2.out).cell (j := 0) rfl
  have c1 := (K0.out.below BU2.out).cell (j := 1) rfl
  have c2 := (K0.out.below BU2.out).cell (j := 2) rfl
  have c3 := (K0.out.below BU2.out).cell (j := 3) rfl
  have c4 := (K0.out.below BU2.out).cell (j := 4) rfl
  have c5 := (K0.out.below BU2.out).cell (j := 5) rfl
  have c6 := (K0.out.below BU2.out).cell (j := 6) rfl
  have c7 := (K0.out.below BU2.out).cell (j := 7) rfl
  have c8 := (K0.out.below BU2.out).cell (j := 8) rfl
  have c9 := (K0.out.below BU2.out).cell (j := 9) rfl
  have c10 := (K0.out.below BU2.out).cell (j := 10) rfl
  have c11 := (K0.out.below BU2.out).cell (j := 11) rfl
  go_wp2_with fail
  clear c0 c1 c2 c3 c4 c5 c6 c7 c8 c9 c10 c11
  go_loopw [4, 6, 97] (fun x _ i v => x = .string (sw (n : Int) ++ ⟨#[32]⟩ ++ numS a) ∧ i = .int .i64 0 ∧ Hid (Below U.heap.size U v)) (fun _ _ _ _ => 0)
  case atStart => exact ⟨rfl, rfl, BU2.out⟩
  case round =>
    obtain ⟨rfl, rfl, HB⟩ := hrel
    have HBW := hid (HBW0.out HB.out)
    have c0 := (K0.out.below HB.out).cell (j := 0) rfl
    have c1 := (K0.out.below HB.out).cell (j := 1) rfl
    have c2 := (K0.out.below HB.out).cell (j := 2) rfl
    have c3 := (K0.out.below HB.out).cell (j := 3) rfl
    have c4 := (K0.out.below HB.out).cell (j := 4) rfl
    have c5 := (K0.out.below HB.out).cell (j := 5) rfl
    have c6 := (K0.out.below HB.out).cell (j := 6) rfl
    have c7 := (K0.out.below HB.out).cell (j := 7) rfl
    have c8 := (K0.out.below HB.out).cell (j := 8) rfl
    have c9 := (K0.out.below HB.out).cell (j := 9) rfl
    have c10 := (K0.out.below HB.out).cell (j := 10) rfl
    have c11 := (K0.out.below HB.out).cell (j := 11) rfl
    have HR := hid (st_e h1 h7 h5 hn1 hn9 HA0.out)
    go_wp2
    go_ret
    exact ⟨by rw [HR.out]; try rfl, HBW.out⟩
end Go.Proofs.YtjddkofpfmjojaaDoor
/-
  What the law's helpers do with slices of strings and of numbers: copied, held against each other, sizes summed.
-/
namespace Go.Proofs.YtjddkofpfmjojaaDoor
open Go.RowKit

theorem made_ints (n : Nat) : madeCells (Value.int .i64 0).cells (n * 1) = ((List.replicate n 0).map (Value.int .i64)).toArray := by
  apply Array.ext
  · simp [madeCells]
  · intro i h1 h2; simp [madeCells, Value.cells, Nat.mod_one]
theorem infoIntS : (Tryd.prog.info? 3).map (fun i => (i.zero, i.size, i.bytes)) = some (some (Value.int .i64 0), 1, 8) := by kernel_rfl
def ptIntS (l : List Int) (k : Nat) : List Int := l.take k ++ List.replicate (l.length - k) 0
theorem ptIntS_length (l : List Int) (k : Nat) (h : k ≤ l.length) : (ptIntS l k).length = l.length := by simp [ptIntS]; omega
theorem ptIntS_set (l : List Int) (k : Nat) (h : k < l.length) : (ptIntS l k).set k (iAt l k) = ptIntS l (k + 1) := by
  have e : iAt l k = l[k] := by simp [iAt, h]
  rw [e]
  have hl : (l.take k).length = k := by simp; omega
  simp only [ptIntS]
  rw [List.set_append_right _ _ (by omega), hl]
  have h2 : l.length - k = (l.length - (k + 1)) + 1 := by omega
  rw [List.take_succ_eq_append_getElem h, h2, List.replicate_succ, Nat.sub_self, List.set_cons_zero, List.append_assoc]
  rfl
set_option maxHeartbeats 2000000 in
theorem toIntS_at (S : Nat → Prop) (a : Option Addr) (n c : Nat) (l : List Int) (w : World) (h : Ir w S (.slice a n c) l) (hnm : n ≤ 1048576) :
    Calls Tryd.prog 21 #[.slice a n c] w fun e w' => e = .returned (.slice (some ⟨w.heap.size, 0, none⟩) n n) ∧ Bk w' w.heap.size 3 (l.map (Value.int .i64)) ∧ Below w.heap.size w w' := by
  have HN := hid (Rw.len h).1
  have H0 := hid h
  clear h
  have hmk := run_make_n (P := Tryd.prog) 22 3 (Value.int .i64 0) 1 8 Tryd.underlying22 infoIntS n (by omega) (by omega)
  rw [made_ints] at hmk
  have HM : Hid ((List.replicate n 0).map (Value.int .i64) = (ptIntS l 0).map (Value.int .i64)) := by
    show _ = _
    rw [HN.out]; simp [ptIntS]
  rw [HM.out] at hmk
  have h63 : n ≤ 9223372036854775807 := by omega
  go_enter Tryd.func21, Tryd.ntmps21
  go_wp2
  go_loopw [4] (fun i wr => ∃ k : Nat, k ≤ n ∧ i = .int .i64 k ∧ Hid (Bk wr w.heap.size 3 ((ptIntS l k).map (Value.int .i64))) ∧ Hid (Below w.heap.size w wr)) (fun i _ => n - (intOf i).toNat)
  case atStart => exact ⟨0, Nat.zero_le _, rfl, Bk.new _ _ _, (Below.refl _ _).alloc (Nat.le_refl _) _⟩
  case round =>
    obtain ⟨k, hk, rfl, HK, HB⟩ := hrel
    by_cases hlt : k < n
    · have hlt' : (k : Int) < (n : Int) := by omega
      have HP := hid (H0.out.below HB.out)
      obtain ⟨b, off, rfl, _, hbw, hcell⟩ := HP.out.at (by omega)
      have hck := hcell k hlt
      have HSET : Hid ((ptIntS l k).set k (iAt l k) = ptIntS l (k + 1)) := ptIntS_set l k (by rw [← HN.out]; exact hlt)
      have HLE : Hid ((ptIntS l k).length = n) := by show _ = _; rw [ptIntS_length l k (by rw [← HN.out]; exact hk), ← HN.out]
      clear hcell hbw
      generalize hcur : iAt l k = ck at hck HSET
      clear hcur HP
      have hc0 : wr.cell? ⟨w.heap.size, k, none⟩ = some ((Value.int .i64) (iAt (ptIntS l k) k)) := HK.out.cell (by simp [iAt, show k < (ptIntS l k).length by rw [HLE.out]; exact hlt])
      have hf0 := HK.out.free k
      have HK2 : Hid (Bk (wr.setCell ⟨w.heap.size, k, none⟩ ((Value.int .i64) ck)) w.heap.size 3 ((ptIntS l (k + 1)).map (Value.int .i64))) := by
        show Bk _ _ _ _
        rw [← HSET.out, List.map_set]
        exact HK.out.set _ _
      have HB2 : Hid (Below w.heap.size w (wr.setCell ⟨w.heap.size, k, none⟩ ((Value.int .i64) ck))) := HB.out.setCell (Nat.le_refl _) _
      generalize iAt (ptIntS l k) k = old at hc0
      go_wp2
      go_roundw
      case rel => exact ⟨k + 1, by omega, by go_num, HK2.out, HB2.out⟩
      case measure => simp [intOf]; omega
    · have hk' : k = n := by omega
      have HA : Hid ((ptIntS l k).map (Value.int .i64) = l.map (Value.int .i64)) := by show _ = _; rw [hk', HN.out]; simp [ptIntS]
      clear hk'
      go_wp2
      go_ret
      refine ⟨rfl, ?_, HB.out⟩
      rw [← HA.out]; exact HK.out
set_option maxHeartbeats 2000000 in
theorem eqIntS_at (S S' : Nat → Prop) (a a' : Option Addr) (n n' c c' : Nat) (l l' : List Int) (w : World) (h : Ir w S (.slice a n c) l) (h' : Ir w S' (.slice a' n' c') l') :
    Calls Tryd.prog 27 #[.slice a n c, .slice a' n' c'] w fun e w' => e = .returned (.bool (decide (l = l'))) ∧ Below w.heap.size w w' := by
  obtain ⟨hn, hnc, hcc⟩ := Rw.len h
  obtain ⟨hn', hnc', hcc'⟩ := Rw.len h'
  have HN := hid hn
  have HN' := hid hn'
  have H0 := hid h
  have H0' := hid h'
  clear h h' hn hn'
  by_cases hne : n = n'
  · subst hne
    have hz : ((n : Int) != (n : Int)) = false := by simp
    go_enter Tryd.func27, Tryd.ntmps27
    go_wp2
    go_loopw [5] (fun i wr => ∃ k : Nat, k ≤ n ∧ i = .int .i64 k ∧ Hid (Below w.heap.size w wr) ∧ Hid (l.take k = l'.take k)) (fun i _ => n - (intOf i).toNat)
    case atStart => exact ⟨0, Nat.zero_le _, rfl, Below.refl _ _, rfl⟩
    case round =>
      obtain ⟨k, hk, rfl, HB, HT⟩ := hrel
      by_cases hlt : k < n
      · have hlt' : (k : Int) < (n : Int) := by omega
        have HP := hid (H0.out.below HB.out)
        have HP' := hid (H0'.out.below HB.out)
        obtain ⟨b, off, rfl, _, hbw, hcell⟩ := HP.out.at (by omega)
        obtain ⟨b', off', rfl, _, hbw', hcell'⟩ := HP'.out.at (by omega)
        have hck := hcell k hlt
        have hck' := hcell' k hlt
        have HS : Hid (iAt l k = iAt l' k → l.take (k + 1) = l'.take (k + 1)) := by
          intro e
          have hl : k < l.length := by rw [← HN.out]; exact hlt
          have hl' : k < l'.length := by rw [← HN'.out]; exact hlt
          rw [List.take_succ_eq_append_getElem hl, List.take_succ_eq_append_getElem hl', HT.out]
          simp [iAt, hl, hl'] at e
          rw [e]
        have HF : Hid (iAt l k ≠ iAt l' k → decide (l = l') = false) := by
          intro e
          rw [decide_eq_false_iff_not]
          intro e'
          exact e (by rw [e'])
        clear hcell hcell' hbw hbw' HP HP' HT
        generalize iAt l k = ck at *
        generalize iAt l' k = ck' at *
        by_cases he : ck = ck'
        · have HS1 := hid (HS.out he)
          subst he
          have t : (ck != ck) = false := by simp
          clear HS HF
          go_wp2
          go_quiet (fail)
          go_wp2
          go_roundw
          case rel => exact ⟨k + 1, by omega, by go_num, Below.drewN' HB.out _, HS1.out⟩
          case measure => simp [intOf]; omega
        · have HF1 := hid (HF.out he)
          have t : (ck != ck') = true := by simp [he]
          clear he HS HF
          go_wp2
          go_quiet (fail)
          go_wp2
          go_ret
          exact ⟨by rw [HF1.out]; rfl, Below.drewN' HB.out _⟩
      · have HF : Hid (decide (l = l') = true) := by
          show decide (l = l') = true
          have hk' : k = n := by omega
          have e := HT.out
          have e1 : l.length ≤ k := by rw [← HN.out]; omega
          have e2 : l'.length ≤ k := by rw [← HN'.out]; omega
          rw [List.take_of_length_le e1, List.take_of_length_le e2] at e
          simp [e]
        clear HT
        go_wp2
        go_ret
        exact ⟨by rw [HF.out]; rfl, HB.out⟩
  · have hz : ((n : Int) != (n' : Int)) = true := by simp; omega
    have HF : Hid (decide (l = l') = false) := by
      show decide (l = l') = false
      rw [decide_eq_false_iff_not]
      intro e
      exact hne (by rw [HN.out, HN'.out, e])
    clear hne
    go_enter Tryd.func27, Tryd.ntmps27
    go_wp2
    go_ret
    exact ⟨by rw [HF.out]; rfl, Below.refl _ _⟩
def szOkS (l : List ByteArray) : Prop := ∀ i, (sAt l i).size ≤ 9223372036854775807
theorem szIntS_at (a : Option Addr) (n c : Nat) (left : Int) (w : World) (hc : n ≤ 9223372036854775807) (h0 : 0 ≤ left) (h1 : left ≤ 1048576) :
    Calls Tryd.prog 15 #[.slice a n c, .int .i64 left] w fun e w' => (∃ x : Int, e = .returned (.int .i64 x) ∧ x ≤ left ∧ -1 ≤ x ∧ (0 ≤ x → n ≤ 1048576)) ∧ Below w.heap.size w w' := by
  go_enter Tryd.func15, Tryd.ntmps15
  go_wp2
  all_goals (go_ret; exact ⟨⟨_, rfl, by omega, by omega, fun h => by omega⟩, Below.refl _ _⟩)
end Go.Proofs.YtjddkofpfmjojaaDoor
/-
  Messages: when one is right, in plain; MsgOk of the program.
-/
namespace Go.Proofs.YtjddkofpfmjojaaDoor
open Go.RowKit
set_option linter.unusedVariables false
def nuOk (nu : Int) : Bool := decide (1 ≤ nu) && decide (nu ≤ 16)
def stN (st : Int) : Bool := decide (0 < st) && decide (st ≤ 1099511627775)
def stC (cd st : Int) : Bool := if cd = 0 then stN st else decide (st = 0)
def noT (st cd : Int) (pn : Nat) : Bool := decide (st = 0) && (decide (cd = 0) && decide (pn = 0))
def upOk (p : PB) : Bool := uOk p.1 && uvOk p.2
def prsOk (ps : List PB) : Bool := decide (ps.length ≤ 8) && ps.all upOk
def tel (st cd : Int) (ps : List PB) : Bool := (decide (0 ≤ cd) && decide (cd ≤ 9)) && (stC cd st && prsOk ps)
def prtOk (kd nu st : Int) (ak az : Bool) (cd : Int) (ps : List PB) (ys : Bool) : Bool :=
  if kd = 1 then nuOk nu && (ak && (noT st cd ps.length && !ys))
  else if kd = 2 then nuOk nu && (tel st cd ps && (az && !ys))
  else if kd = 3 then (decide (cd = 0) && decide (ps.length = 0)) && (nuOk nu && (tel st cd ps && (az && !ys)))
  else if kd = 4 ∨ kd = 5 then decide (nu = 0) && (az && noT st cd ps.length)
  else if kd = 6 ∨ kd = 7 then !ys && (decide (nu = 0) && (az && noT st cd ps.length))
  else false
def mgOk (kd c e n sh nu st : Int) (ak az : Bool) (cd : Int) (ps : List PB) (ys : Bool) : Bool := txOk (c, e, n) && (decide (0 ≤ sh) && (decide (sh < 4) && prtOk kd nu st ak az cd ps ys))
theorem prtOk_1 (nu st : Int) (ak az : Bool) (cd : Int) (ps : List PB) (ys : Bool) : prtOk 1 nu st ak az cd ps ys = (nuOk nu && (ak && (noT st cd ps.length && !ys))) := rfl
theorem prtOk_2 (nu st : Int) (ak az : Bool) (cd : Int) (ps : List PB) (ys : Bool) : prtOk 2 nu st ak az cd ps ys = (nuOk nu && (tel st cd ps && (az && !ys))) := rfl
theorem prtOk_3 (nu st : Int) (ak az : Bool) (cd : Int) (ps : List PB) (ys : Bool) : prtOk 3 nu st ak az cd ps ys = ((decide (cd = 0) && decide (ps.length = 0)) && (nuOk nu && (tel st cd ps && (az && !ys)))) := rfl
theorem prtOk_4 (nu st : Int) (ak az : Bool) (cd : Int) (ps : List PB) (ys : Bool) : prtOk 4 nu st ak az cd ps ys = (decide (nu = 0) && (az && noT st cd ps.length)) := rfl
theorem prtOk_5 (nu st : Int) (ak az : Bool) (cd : Int) (ps : List PB) (ys : Bool) : prtOk 5 nu st ak az cd ps ys = (decide (nu = 0) && (az && noT st cd ps.length)) := rfl
theorem prtOk_6 (nu st : Int) (ak az : Bool) (cd : Int) (ps : List PB) (ys : Bool) : prtOk 6 nu st ak az cd ps ys = (!ys && (decide (nu = 0) && (az && noT st cd ps.length))) := rfl
theorem prtOk_7 (nu st : Int) (ak az : Bool) (cd : Int) (ps : List PB) (ys : Bool) : prtOk 7 nu st ak az cd ps ys = (!ys && (decide (nu = 0) && (az && noT st cd ps.length))) := rfl
theorem prtOk_no {kd : Int} (h : ¬ (1 ≤ kd ∧ kd ≤ 7)) (nu st : Int) (ak az : Bool) (cd : Int) (ps : List PB) (ys : Bool) : prtOk kd nu st ak az cd ps ys = false := by
  unfold prtOk
  rw [if_neg (by omega), if_neg (by omega), if_neg (by omega), if_neg (by omega), if_neg (by omega)]
theorem isNumberM_any (m : Int) (w : World) : Calls Tryd.prog 58 #[.int .i64 m] w fun e w' => e = .returned (.bool (decide (0 ≤ m) && decide (m ≤ 1099511627775))) ∧ w = w' := by
  by_cases h : 0 ≤ m
  · have HE : Hid ((decide (0 ≤ m) && decide (m ≤ 1099511627775)) = decide (m ≤ 1099511627775)) := by show _ = _; simp [h]
    go_enter Tryd.func58, Tryd.ntmps58
    go_wp2
    go_ret
    exact ⟨by rw [HE.out]; rfl, rfl⟩
  · have HE : Hid ((decide (0 ≤ m) && decide (m ≤ 1099511627775)) = false) := by show _ = false; simp [h]
    go_enter Tryd.func58, Tryd.ntmps58
    go_wp2
    go_ret
    exact ⟨by rw [HE.out]; rfl, rfl⟩
theorem all_take_succ {α : Type} (l : List α) (f : α → Bool) (d : α) {m : Nat} (h : m < l.length) : (l.take (m + 1)).all f = ((l.take m).all f && f (l[m]?.getD d)) := by
  rw [List.take_succ_eq_append_getElem h, List.all_append]
  simp [h]
theorem all_no {α : Type} (l : List α) (f : α → Bool) (d : α) {m : Nat} (h : m < l.length) (hf : f (l[m]?.getD d) = false) : l.all f = false := by
  rw [List.all_eq_false]
  refine ⟨l[m], List.getElem_mem h, ?_⟩
  simp [h] at hf
  simp [hf]
theorem pAtB_get (l : List PB) (m : Nat) : pAtB l m = l[m]?.getD (⟨#[]⟩, ⟨#[]⟩) := rfl
end Go.Proofs.YtjddkofpfmjojaaDoor
/-
  Messages: what the law's helpers do with one; rows of pairs of one's own.
-/
namespace Go.Proofs.YtjddkofpfmjojaaDoor
open Go.RowKit
set_option linter.unusedVariables false
/-- A row of pairs of one's own. -/
def oqW (w : World) (B : Nat) (v : Value) (l : List PB) : Prop := w.ownsRow B 76 2 v l.length (pcs l)
theorem oqW.to {w w' : World} {B : Nat} {R : Nat → Prop} {v : Value} {l : List PB} (h : oqW w B v l) (ho : Only R w w') (hR : ∀ y, v.ownBlock = some y → ¬ R y) : oqW w' B v l := own_kept h ho hR
theorem oqW.below {w w' : World} {B : Nat} {v : Value} {l : List PB} (h : oqW w B v l) (hb : Below w.heap.size w w') : oqW w' B v l := h.to (only_of_below hb (fun _ => False)) (fun _ _ h => h)
theorem oqW.base {w : World} {B B' : Nat} {v : Value} {l : List PB} (h : oqW w B v l) (hB : B' ≤ B) : oqW w B' v l := by
  refine ⟨h.1, h.2.imp id ?_⟩
  rintro ⟨g, cap, cur, k1, k2, k3⟩
  exact ⟨g, cap, cur, k1, by omega, k3⟩
theorem oqW.lt {w : World} {B : Nat} {v : Value} {l : List PB} (h : oqW w B v l) {y : Nat} (hy : v.ownBlock = some y) : B ≤ y ∧ y < w.heap.size := World.ownsRow.lt h y hy
theorem oqW.r {w : World} {B : Nat} {v : Value} {l : List PB} (h : oqW w B v l) : Pr w (fun _ => True) v l := rw_own h (fun _ _ _ _ => trivial)
theorem oqW.rB {w : World} {B : Nat} {v : Value} {l : List PB} (h : oqW w B v l) : Pr w (fun b => B ≤ b) v l := rw_own h (fun _ _ h _ => h)
theorem oqw_nil (w : World) (B : Nat) : oqW w B (.slice none 0 0) [] := World.ownsRow_nil _ _ _ _
theorem oqw_bk {w : World} {g B : Nat} {l : List PB} {n : Nat} (h : Bk w g 76 (pcs l)) (hl : n = l.length) (hn : n ≤ 1048577) (hB : B ≤ g) : oqW w B (.slice (some ⟨g, 0, none⟩) n n) l := by
  subst hl
  exact ⟨pcs_length l, .inr ⟨g, l.length, (pcs l).toArray, rfl, hB, h, Nat.le_refl _, by unfold maxLen; omega, by simpa using pcs_length l, by simp [← pcs_length l]⟩⟩
theorem setE {w : World} {g : Nat} {T : TypeId} {xs ys : List Value} (h : Bk w g T xs) (o : Nat) (x : Value) (e : xs.set o x = ys) : Bk (w.setCell ⟨g, o, none⟩ x) g T ys := by
  rw [← e]; exact h.set o x
theorem msg_sets {w : World} {g : Nat} {T : TypeId} {z0 z1 z2 z3 z4 z5 z6 z7 z8 z9 z10 z11 z12 z13 z14 z15 z16 : Value} (h : Bk w g T [z0, z1, z2, z3, z4, z5, z6, z7, z8, z9, z10, z11, z12, z13, z14, z15, z16]) (a0 a1 a2 a3 a4 a5 a6 a7 a8 a9 a10 a11 a12 a13 a14 a15 a16 : Value) : Bk (((((((((((((((((w.setCell ⟨g, 0, none⟩ (a0)).setCell ⟨g, 1, none⟩ (a1)).setCell ⟨g, 2, none⟩ (a2)).setCell ⟨g, 3, none⟩ (a3)).setCell ⟨g, 4, none⟩ (a4)).setCell ⟨g, 5, none⟩ (a5)).setCell ⟨g, 6, none⟩ (a6)).setCell ⟨g, 7, none⟩ (a7)).setCell ⟨g, 8, none⟩ (a8)).setCell ⟨g, 9, none⟩ (a9)).setCell ⟨g, 10, none⟩ (a10)).setCell ⟨g, 11, none⟩ (a11)).setCell ⟨g, 12, none⟩ (a12)).setCell ⟨g, 13, none⟩ (a13)).setCell ⟨g, 14, none⟩ (a14)).setCell ⟨g, 15, none⟩ (a15)).setCell ⟨g, 16, none⟩ (a16)) g T [a0, a1, a2, a3, a4, a5, a6, a7, a8, a9, a10, a11, a12, a13, a14, a15, a16] := (setE (setE (setE (setE (setE (setE (setE (setE (setE (setE (setE (setE (setE (setE (setE (setE (setE h 0 a0 (ys := [a0, z1, z2, z3, z4, z5, z6, z7, z8, z9, z10, z11, z12, z13, z14, z15, z16]) rfl) 1 a1 (ys := [a0, a1, z2, z3, z4, z5, z6, z7, z8, z9, z10, z11, z12, z13, z14, z15, z16]) rfl) 2 a2 (ys := [a0, a1, a2, z3, z4, z5, z6, z7, z8, z9, z10, z11, z12, z13, z14, z15, z16]) rfl) 3 a3 (ys := [a0, a1, a2, a3, z4, z5, z6, z7, z8, z9, z10, z11, z12, z13, z14, z15, z16]) rfl) 4 a4 (ys := [a0, a1, a2, a3, a4, z5, z6, z7, z8, z9, z10, z11, z12, z13, z14, z15, z16]) rfl) 5 a5 (ys := [a0, a1, a2, a3, a4, a5, z6, z7, z8, z9, z10, z11, z12, z13, z14, z15, z16]) rfl) 6 a6 (ys := [a0, a1, a2, a3, a4, a5, a6, z7, z8, z9, z10, z11, z12, z13, z14, z15, z16]) rfl) 7 a7 (ys := [a0, a1, a2, a3, a4, a5, a6, a7, z8, z9, z10, z11, z12, z13, z14, z15, z16]) rfl) 8 a8 (ys := [a0, a1, a2, a3, a4, a5, a6, a7, a8, z9, z10, z11, z12, z13, z14, z15, z16]) rfl) 9 a9 (ys := [a0, a1, a2, a3, a4, a5, a6, a7, a8, a9, z10, z11, z12, z13, z14, z15, z16]) rfl) 10 a10 (ys := [a0, a1, a2, a3, a4, a5, a6, a7, a8, a9, a10, z11, z12, z13, z14, z15, z16]) rfl) 11 a11 (ys := [a0, a1, a2, a3, a4, a5, a6, a7, a8, a9, a10, a11, z12, z13, z14, z15, z16]) rfl) 12 a12 (ys := [a0, a1, a2, a3, a4, a5, a6, a7, a8, a9, a10, a11, a12, z13, z14, z15, z16]) rfl) 13 a13 (ys := [a0, a1, a2, a3, a4, a5, a6, a7, a8, a9, a10, a11, a12, a13, z14, z15, z16]) rfl) 14 a14 (ys := [a0, a1, a2, a3, a4, a5, a6, a7, a8, a9, a10, a11, a12, a13, a14, z15, z16]) rfl) 15 a15 (ys := [a0, a1, a2, a3, a4, a5, a6, a7, a8, a9, a10, a11, a12, a13, a14, a15, z16]) rfl) 16 a16 (ys := [a0, a1, a2, a3, a4, a5, a6, a7, a8, a9, a10, a11, a12, a13, a14, a15, a16]) rfl)
theorem only_step {R : Nat → Prop} {w w' : World} {g : Nat} (h : Only R w w') (hR : R g) (o : Nat) (v : Value) : Only R w (w'.setCell ⟨g, o, none⟩ v) := h.trans (only_set (R := R) (p := ⟨g, o, none⟩) hR v)
theorem msg_only {w : World} {g : Nat} {R : Nat → Prop} (hR : R g) (a0 a1 a2 a3 a4 a5 a6 a7 a8 a9 a10 a11 a12 a13 a14 a15 a16 : Value) : Only R w (((((((((((((((((w.setCell ⟨g, 0, none⟩ (a0)).setCell ⟨g, 1, none⟩ (a1)).setCell ⟨g, 2, none⟩ (a2)).setCell ⟨g, 3, none⟩ (a3)).setCell ⟨g, 4, none⟩ (a4)).setCell ⟨g, 5, none⟩ (a5)).setCell ⟨g, 6, none⟩ (a6)).setCell ⟨g, 7, none⟩ (a7)).setCell ⟨g, 8, none⟩ (a8)).setCell ⟨g, 9, none⟩ (a9)).setCell ⟨g, 10, none⟩ (a10)).setCell ⟨g, 11, none⟩ (a11)).setCell ⟨g, 12, none⟩ (a12)).setCell ⟨g, 13, none⟩ (a13)).setCell ⟨g, 14, none⟩ (a14)).setCell ⟨g, 15, none⟩ (a15)).setCell ⟨g, 16, none⟩ (a16)) := (only_step (only_step (only_step (only_step (only_step (only_step (only_step (only_step (only_step (only_step (only_step (only_step (only_step (only_step (only_step (only_step (only_set (R := R) (p := ⟨g, 0, none⟩) hR a0) hR 1 a1) hR 2 a2) hR 3 a3) hR 4 a4) hR 5 a5) hR 6 a6) hR 7 a7) hR 8 a8) hR 9 a9) hR 10 a10) hR 11 a11) hR 12 a12) hR 13 a13) hR 14 a14) hR 15 a15) hR 16 a16)
end Go.Proofs.YtjddkofpfmjojaaDoor
/-
  Steps: what the law's helper makes of one.
-/
namespace Go.Proofs.YtjddkofpfmjojaaDoor
open Go.RowKit
set_option linter.unusedVariables false
theorem st_sets {w : World} {g : Nat} {T : TypeId} {z0 z1 z2 z3 z4 z5 z6 z7 z8 z9 z10 z11 : Value} (h : Bk w g T [z0, z1, z2, z3, z4, z5, z6, z7, z8, z9, z10, z11]) (a0 a1 a2 a3 a4 a5 a6 a7 a8 a9 a10 a11 : Value) : Bk ((((((((((((w.setCell ⟨g, 0, none⟩ (a0)).setCell ⟨g, 1, none⟩ (a1)).setCell ⟨g, 2, none⟩ (a2)).setCell ⟨g, 3, none⟩ (a3)).setCell ⟨g, 4, none⟩ (a4)).setCell ⟨g, 5, none⟩ (a5)).setCell ⟨g, 6, none⟩ (a6)).setCell ⟨g, 7, none⟩ (a7)).setCell ⟨g, 8, none⟩ (a8)).setCell ⟨g, 9, none⟩ (a9)).setCell ⟨g, 10, none⟩ (a10)).setCell ⟨g, 11, none⟩ (a11)) g T [a0, a1, a2, a3, a4, a5, a6, a7, a8, a9, a10, a11] := (setE (setE (setE (setE (setE (setE (setE (setE (setE (setE (setE (setE h 0 a0 (ys := [a0, z1, z2, z3, z4, z5, z6, z7, z8, z9, z10, z11]) rfl) 1 a1 (ys := [a0, a1, z2, z3, z4, z5, z6, z7, z8, z9, z10, z11]) rfl) 2 a2 (ys := [a0, a1, a2, z3, z4, z5, z6, z7, z8, z9, z10, z11]) rfl) 3 a3 (ys := [a0, a1, a2, a3, z4, z5, z6, z7, z8, z9, z10, z11]) rfl) 4 a4 (ys := [a0, a1, a2, a3, a4, z5, z6, z7, z8, z9, z10, z11]) rfl) 5 a5 (ys := [a0, a1, a2, a3, a4, a5, z6, z7, z8, z9, z10, z11]) rfl) 6 a6 (ys := [a0, a1, a2, a3, a4, a5, a6, z7, z8, z9, z10, z11]) rfl) 7 a7 (ys := [a0, a1, a2, a3, a4, a5, a6, a7, z8, z9, z10, z11]) rfl) 8 a8 (ys := [a0, a1, a2, a3, a4, a5, a6, a7, a8, z9, z10, z11]) rfl) 9 a9 (ys := [a0, a1, a2, a3, a4, a5, a6, a7, a8, a9, z10, z11]) rfl) 10 a10 (ys := [a0, a1, a2, a3, a4, a5, a6, a7, a8, a9, a10, z11]) rfl) 11 a11 (ys := [a0, a1, a2, a3, a4, a5, a6, a7, a8, a9, a10, a11]) rfl)
theorem st_only {w : World} {g : Nat} {R : Nat → Prop} (hR : R g) (a0 a1 a2 a3 a4 a5 a6 a7 a8 a9 a10 a11 : Value) : Only R w ((((((((((((w.setCell ⟨g, 0, none⟩ (a0)).setCell ⟨g, 1, none⟩ (a1)).setCell ⟨g, 2, none⟩ (a2)).setCell ⟨g, 3, none⟩ (a3)).setCell ⟨g, 4, none⟩ (a4)).setCell ⟨g, 5, none⟩ (a5)).setCell ⟨g, 6, none⟩ (a6)).setCell ⟨g, 7, none⟩ (a7)).setCell ⟨g, 8, none⟩ (a8)).setCell ⟨g, 9, none⟩ (a9)).setCell ⟨g, 10, none⟩ (a10)).setCell ⟨g, 11, none⟩ (a11)) := (only_step (only_step (only_step (only_step (only_step (only_step (only_step (only_step (only_step (only_step (only_step (only_set (R := R) (p := ⟨g, 0, none⟩) hR a0) hR 1 a1) hR 2 a2) hR 3 a3) hR 4 a4) hR 5 a5) hR 6 a6) hR 7 a7) hR 8 a8) hR 9 a9) hR 10 a10) hR 11 a11)
theorem load_step {w : World} {g : Nat} {k a b : Int} {ka : Option Addr} {kn kc : Nat} {kd ak : Int} {ky vl lo hi : ByteArray} {mo : Int} {bk : Bool} (c0 : w.cell? ⟨g, 0, none⟩ = some (.int .i64 k)) (c1 : w.cell? ⟨g, 1, none⟩ = some (.int .i64 a)) (c2 : w.cell? ⟨g, 2, none⟩ = some (.int .i64 b)) (c3 : w.cell? ⟨g, 3, none⟩ = some (.slice ka kn kc)) (c4 : w.cell? ⟨g, 4, none⟩ = some (.int .i64 kd)) (c5 : w.cell? ⟨g, 5, none⟩ = some (.int .i64 ak)) (c6 : w.cell? ⟨g, 6, none⟩ = some (.string ky)) (c7 : w.cell? ⟨g, 7, none⟩ = some (.string vl)) (c8 : w.cell? ⟨g, 8, none⟩ = some (.string lo)) (c9 : w.cell? ⟨g, 9, none⟩ = some (.string hi)) (c10 : w.cell? ⟨g, 10, none⟩ = some (.int .i64 mo)) (c11 : w.cell? ⟨g, 11, none⟩ = some (.bool bk)) :
    (loadVar 39 ⟨g, 0, none⟩).run Tryd.prog w = .ok (.agg #[.int .i64 k, .int .i64 a, .int .i64 b, .slice ka kn kc, .int .i64 kd, .int .i64 ak, .string ky, .string vl, .string lo, .string hi, .int .i64 mo, .bool bk]) w := by go_simp
theorem results_step {fn : Func} {p : Tmp} (h : fn.results = #[.cell p 39]) (tmps : Array Value) (w : World) (g : Nat) {k a b : Int} {ka : Option Addr} {kn kc : Nat} {kd ak : Int} {ky vl lo hi : ByteArray} {mo : Int} {bk : Bool} (hp : tmps.getD p undef = .pointer (some ⟨g, 0, none⟩)) (c0 : w.cell? ⟨g, 0, none⟩ = some (.int .i64 k)) (c1 : w.cell? ⟨g, 1, none⟩ = some (.int .i64 a)) (c2 : w.cell? ⟨g, 2, none⟩ = some (.int .i64 b)) (c3 : w.cell? ⟨g, 3, none⟩ = some (.slice ka kn kc)) (c4 : w.cell? ⟨g, 4, none⟩ = some (.int .i64 kd)) (c5 : w.cell? ⟨g, 5, none⟩ = some (.int .i64 ak)) (c6 : w.cell? ⟨g, 6, none⟩ = some (.string ky)) (c7 : w.cell? ⟨g, 7, none⟩ = some (.string vl)) (c8 : w.cell? ⟨g, 8, none⟩ = some (.string lo)) (c9 : w.cell? ⟨g, 9, none⟩ = some (.string hi)) (c10 : w.cell? ⟨g, 10, none⟩ = some (.int .i64 mo)) (c11 : w.cell? ⟨g, 11, none⟩ = some (.bool bk)) :
    (results fn tmps).run Tryd.prog w = .ok (.agg #[.int .i64 k, .int .i64 a, .int .i64 b, .slice ka kn kc, .int .i64 kd, .int .i64 ak, .string ky, .string vl, .string lo, .string hi, .int .i64 mo, .bool bk]) w := by
  have hp' : tmps[p]?.getD undef = .pointer (some ⟨g, 0, none⟩) := by simpa using hp
  simp [results, h, hp', asAddr, load_step c0 c1 c2 c3 c4 c5 c6 c7 c8 c9 c10 c11]
set_option maxHeartbeats 8000000 in
set_option maxRecDepth 20000 in
theorem toStep_any (S : Nat → Prop) (k a b : Int) (ka : Option Addr) (kn kc : Nat) (kp : List Int) (kd ak : Int) (ky vl lo hi : ByteArray) (mo : Int) (bk : Bool) (w : World) (h1 : Ir w S (.slice ka kn kc) kp) (hh : kn ≤ 1048576) :
    Calls Tryd.prog 7 #[.agg #[.int .i64 k, .int .i64 a, .int .i64 b, .slice ka kn kc, .int .i64 kd, .int .i64 ak, .string ky, .string vl, .string lo, .string hi, .int .i64 mo, .bool bk]] w fun r w' => ∃ g0, r = .returned (.agg #[.int .i64 k, .int .i64 a, .int .i64 b, .slice (some ⟨g0, 0, none⟩) kn kn, .int .i64 kd, .int .i64 ak, .string ky, .string vl, .string lo, .string hi, .int .i64 mo, .bool bk]) ∧ (w.heap.size ≤ g0 ∧ Bk w' g0 3 (kp.map (Value.int .i64))) ∧ Below w.heap.size w w' := by
  have B0 : Hid (Below w.heap.size w (((w.alloc (.cells #[.int .i64 k, .int .i64 a, .int .i64 b, .slice ka kn kc, .int .i64 kd, .int .i64 ak, .string ky, .string vl, .string lo, .string hi, .int .i64 mo, .bool bk] 30)).alloc (.cells #[.int .i64 0, .int .i64 0, .int .i64 0, .slice none 0 0, .int .i64 0, .int .i64 0, .string ⟨#[]⟩, .string ⟨#[]⟩, .string ⟨#[]⟩, .string ⟨#[]⟩, .int .i64 0, .bool false] 39)).alloc (.cells #[.int .i64 k, .int .i64 a, .int .i64 b, .slice none 0 0, .int .i64 0, .int .i64 0, .string ⟨#[]⟩, .string ⟨#[]⟩, .string ⟨#[]⟩, .string ⟨#[]⟩, .int .i64 0, .bool false] 39))) := below_new (below_new (below_new (Below.refl _ _)))
  have C1 := hid (fun w h => toIntS_at S ka kn kc kp w h hh)
  have C2 := hid (fun w => toCall_any kd ak ky vl lo hi mo bk w)
  have K0 := hid (((Bk.new w 30 [.int .i64 k, .int .i64 a, .int .i64 b, .slice ka kn kc, .int .i64 kd, .int .i64 ak, .string ky, .string vl, .string lo, .string hi, .int .i64 mo, .bool bk]).alloc (.cells #[.int .i64 0, .int .i64 0, .int .i64 0, .slice none 0 0, .int .i64 0, .int .i64 0, .string ⟨#[]⟩, .string ⟨#[]⟩, .string ⟨#[]⟩, .string ⟨#[]⟩, .int .i64 0, .bool false] 39)).alloc (.cells #[.int .i64 k, .int .i64 a, .int .i64 b, .slice none 0 0, .int .i64 0, .int .i64 0, .string ⟨#[]⟩, .string ⟨#[]⟩, .string ⟨#[]⟩, .string ⟨#[]⟩, .int .i64 0, .bool false] 39))
  have J0 := hid ((Bk.new (w.alloc (.cells #[.int .i64 k, .int .i64 a, .int .i64 b, .slice ka kn kc, .int .i64 kd, .int .i64 ak, .string ky, .string vl, .string lo, .string hi, .int .i64 mo, .bool bk] 30)) 39 [.int .i64 0, .int .i64 0, .int .i64 0, .slice none 0 0, .int .i64 0, .int .i64 0, .string ⟨#[]⟩, .string ⟨#[]⟩, .string ⟨#[]⟩, .string ⟨#[]⟩, .int .i64 0, .bool false]).alloc (.cells #[.int .i64 k, .int .i64 a, .int .i64 b, .slice none 0 0, .int .i64 0, .int .i64 0, .string ⟨#[]⟩, .string ⟨#[]⟩, .string ⟨#[]⟩, .string ⟨#[]⟩, .int .i64 0, .bool false] 39))
  have I0 := hid (Bk.new ((w.alloc (.cells #[.int .i64 k, .int .i64 a, .int .i64 b, .slice ka kn kc, .int .i64 kd, .int .i64 ak, .string ky, .string vl, .string lo, .string hi, .int .i64 mo, .bool bk] 30)).alloc (.cells #[.int .i64 0, .int .i64 0, .int .i64 0, .slice none 0 0, .int .i64 0, .int .i64 0, .string ⟨#[]⟩, .string ⟨#[]⟩, .string ⟨#[]⟩, .string ⟨#[]⟩, .int .i64 0, .bool false] 39)) 39 [.int .i64 k, .int .i64 a, .int .i64 b, .slice none 0 0, .int .i64 0, .int .i64 0, .string ⟨#[]⟩, .string ⟨#[]⟩, .string ⟨#[]⟩, .string ⟨#[]⟩, .int .i64 0, .bool false])
  rw [show (w.alloc (.cells #[.int .i64 k, .int .i64 a, .int .i64 b, .slice ka kn kc, .int .i64 kd, .int .i64 ak, .string ky, .string vl, .string lo, .string hi, .int .i64 mo, .bool bk] 30)).heap.size = w.heap.size + 1 by simp] at J0
  rw [show ((w.alloc (.cells #[.int .i64 k, .int .i64 a, .int .i64 b, .slice ka kn kc, .int .i64 kd, .int .i64 ak, .string ky, .string vl, .string lo, .string hi, .int .i64 mo, .bool bk] 30)).alloc (.cells #[.int .i64 0, .int .i64 0, .int .i64 0, .slice none 0 0, .int .i64 0, .int .i64 0, .string ⟨#[]⟩, .string ⟨#[]⟩, .string ⟨#[]⟩, .string ⟨#[]⟩, .int .i64 0, .bool false] 39)).heap.size = w.heap.size + 1 + 1 by simp] at I0
  have d1 : ¬ w.heap.size = w.heap.size + 1 + 1 := by omega
  have d2 : ¬ w.heap.size + 1 = w.heap.size + 1 + 1 := by omega
  have d3 : ¬ w.heap.size + 1 + 1 = w.heap.size + 1 := by omega
  have d4 : ¬ w.heap.size = w.heap.size + 1 := by omega
  have H0 := hid (h1.below B0.out)
  clear h1
  go_enter Tryd.func7, Tryd.ntmps7
  go_wp2_with fail
  refine (C1.out _ H0.out).mono ?_
  generalize hU : ((w.alloc (.cells #[.int .i64 k, .int .i64 a, .int .i64 b, .slice ka kn kc, .int .i64 kd, .int .i64 ak, .string ky, .string vl, .string lo, .string hi, .int .i64 mo, .bool bk] 30)).alloc (.cells #[.int .i64 0, .int .i64 0, .int .i64 0, .slice none 0 0, .int .i64 0, .int .i64 0, .string ⟨#[]⟩, .string ⟨#[]⟩, .string ⟨#[]⟩, .string ⟨#[]⟩, .int .i64 0, .bool false] 39)).alloc (.cells #[.int .i64 k, .int .i64 a, .int .i64 b, .slice none 0 0, .int .i64 0, .int .i64 0, .string ⟨#[]⟩, .string ⟨#[]⟩, .string ⟨#[]⟩, .string ⟨#[]⟩, .int .i64 0, .bool false] 39) = U at *
  have HU : Hid (w.heap.size + 1 + 1 < U.heap.size) := I0.out.lt
  clear hU
  generalize hg0 : U.heap.size = g0 at *
  have HG0 := hid hg0
  clear hg0
  rintro r w1 ⟨rfl, hk, hb⟩
  have hb' : Below U.heap.size U w1 := by rw [HG0.out]; exact hb
  have K1 := hid (K0.out.below hb')
  have J1 := hid (J0.out.below hb')
  have I1 := hid (I0.out.below hb')
  have N1 := hid hk
  have B1 := hid (btR B0.out hb')
  clear hb hb' hk K0 J0 I0 B0
  have x4 := K1.out.cell (j := 4) rfl
  have x5 := K1.out.cell (j := 5) rfl
  have x6 := K1.out.cell (j := 6) rfl
  have x7 := K1.out.cell (j := 7) rfl
  have x8 := K1.out.cell (j := 8) rfl
  have x9 := K1.out.cell (j := 9) rfl
  have x10 := K1.out.cell (j := 10) rfl
  have x11 := K1.out.cell (j := 11) rfl
  have y3 := I1.out.cell (j := 3) rfl
  have f3 := I1.out.free 3
  have hlt := HU.out
  have I2 : Hid (Bk (w1.setCell ⟨w.heap.size + 1 + 1, 3, none⟩ (.slice (some ⟨g0, 0, none⟩) kn kn)) (w.heap.size + 1 + 1) 39 [.int .i64 k, .int .i64 a, .int .i64 b, .slice (some ⟨g0, 0, none⟩) kn kn, .int .i64 0, .int .i64 0, .string ⟨#[]⟩, .string ⟨#[]⟩, .string ⟨#[]⟩, .string ⟨#[]⟩, .int .i64 0, .bool false]) := I1.out.set 3 _
  have J2 : Hid (Bk (w1.setCell ⟨w.heap.size + 1 + 1, 3, none⟩ (.slice (some ⟨g0, 0, none⟩) kn kn)) (w.heap.size + 1) 39 [.int .i64 0, .int .i64 0, .int .i64 0, .slice none 0 0, .int .i64 0, .int .i64 0, .string ⟨#[]⟩, .string ⟨#[]⟩, .string ⟨#[]⟩, .string ⟨#[]⟩, .int .i64 0, .bool false]) := J1.out.setOther (by omega) _ _
  have N2 : Hid (Bk (w1.setCell ⟨w.heap.size + 1 + 1, 3, none⟩ (.slice (some ⟨g0, 0, none⟩) kn kn)) g0 3 (kp.map (Value.int .i64))) := N1.out.setOther (by omega) _ _
  have B2 : Hid (Below w.heap.size w (w1.setCell ⟨w.heap.size + 1 + 1, 3, none⟩ (.slice (some ⟨g0, 0, none⟩) kn kn))) := B1.out.setCell (p := ⟨w.heap.size + 1 + 1, 3, none⟩) (by simp; omega) _
  clear I1 J1 N1 B1 K1
  go_wp2_with fail
  refine (C2.out _).mono ?_
  generalize (w1.setCell ⟨w.heap.size + 1 + 1, 3, none⟩ (.slice (some ⟨g0, 0, none⟩) kn kn)) = V2 at *
  rintro r w3 ⟨rfl, hb⟩
  have I3 := hid (I2.out.below hb)
  have J3 := hid (J2.out.below hb)
  have N3 := hid (N2.out.below hb)
  have B3 := hid (B2.out.trans (hb.mono B2.out.size))
  clear hb I2 J2 N2 B2 y3 f3 x4 x5 x6 x7 x8 x9 x10 x11
  have y0 := I3.out.cell (j := 0) rfl
  have y1 := I3.out.cell (j := 1) rfl
  have y2 := I3.out.cell (j := 2) rfl
  have y3 := I3.out.cell (j := 3) rfl
  have y4 := I3.out.cell (j := 4) rfl
  have y5 := I3.out.cell (j := 5) rfl
  have y6 := I3.out.cell (j := 6) rfl
  have y7 := I3.out.cell (j := 7) rfl
  have y8 := I3.out.cell (j := 8) rfl
  have y9 := I3.out.cell (j := 9) rfl
  have y10 := I3.out.cell (j := 10) rfl
  have y11 := I3.out.cell (j := 11) rfl
  have z0 := J3.out.cell (j := 0) rfl
  have z1 := J3.out.cell (j := 1) rfl
  have z2 := J3.out.cell (j := 2) rfl
  have z3 := J3.out.cell (j := 3) rfl
  have z4 := J3.out.cell (j := 4) rfl
  have z5 := J3.out.cell (j := 5) rfl
  have z6 := J3.out.cell (j := 6) rfl
  have z7 := J3.out.cell (j := 7) rfl
  have z8 := J3.out.cell (j := 8) rfl
  have z9 := J3.out.cell (j := 9) rfl
  have z10 := J3.out.cell (j := 10) rfl
  have z11 := J3.out.cell (j := 11) rfl
  have f4 := I3.out.free 4
  have f5 := I3.out.free 5
  have f6 := I3.out.free 6
  have f7 := I3.out.free 7
  have f8 := I3.out.free 8
  have f9 := I3.out.free 9
  have f10 := I3.out.free 10
  have f11 := I3.out.free 11
  have e0 := J3.out.free 0
  have e1 := J3.out.free 1
  have e2 := J3.out.free 2
  have e3 := J3.out.free 3
  have e4 := J3.out.free 4
  have e5 := J3.out.free 5
  have e6 := J3.out.free 6
  have e7 := J3.out.free 7
  have e8 := J3.out.free 8
  have e9 := J3.out.free 9
  have e10 := J3.out.free 10
  have e11 := J3.out.free 11
  have J4 : Hid (Bk ((((((((w3.setCell ⟨w.heap.size + 1 + 1, 4, none⟩ (.int .i64 kd)).setCell ⟨w.heap.size + 1 + 1, 5, none⟩ (.int .i64 ak)).setCell ⟨w.heap.size + 1 + 1, 6, none⟩ (.string ky)).setCell ⟨w.heap.size + 1 + 1, 7, none⟩ (.string vl)).setCell ⟨w.heap.size + 1 + 1, 8, none⟩ (.string lo)).setCell ⟨w.heap.size + 1 + 1, 9, none⟩ (.string hi)).setCell ⟨w.heap.size + 1 + 1, 10, none⟩ (.int .i64 mo)).setCell ⟨w.heap.size + 1 + 1, 11, none⟩ (.bool bk)) (w.heap.size + 1) 39 [.int .i64 0, .int .i64 0, .int .i64 0, .slice none 0 0, .int .i64 0, .int .i64 0, .string ⟨#[]⟩, .string ⟨#[]⟩, .string ⟨#[]⟩, .string ⟨#[]⟩, .int .i64 0, .bool false]) := ((((((((J3.out.setOther (by omega) _ _).setOther (by omega) _ _).setOther (by omega) _ _).setOther (by omega) _ _).setOther (by omega) _ _).setOther (by omega) _ _).setOther (by omega) _ _).setOther (by omega) _ _)
  have J5 : Hid (Bk ((((((((((((((((((((w3.setCell ⟨w.heap.size + 1 + 1, 4, none⟩ (.int .i64 kd)).setCell ⟨w.heap.size + 1 + 1, 5, none⟩ (.int .i64 ak)).setCell ⟨w.heap.size + 1 + 1, 6, none⟩ (.string ky)).setCell ⟨w.heap.size + 1 + 1, 7, none⟩ (.string vl)).setCell ⟨w.heap.size + 1 + 1, 8, none⟩ (.string lo)).setCell ⟨w.heap.size + 1 + 1, 9, none⟩ (.string hi)).setCell ⟨w.heap.size + 1 + 1, 10, none⟩ (.int .i64 mo)).setCell ⟨w.heap.size + 1 + 1, 11, none⟩ (.bool bk)).setCell ⟨w.heap.size + 1, 0, none⟩ (.int .i64 k)).setCell ⟨w.heap.size + 1, 1, none⟩ (.int .i64 a)).setCell ⟨w.heap.size + 1, 2, none⟩ (.int .i64 b)).setCell ⟨w.heap.size + 1, 3, none⟩ (.slice (some ⟨g0, 0, none⟩) kn kn)).setCell ⟨w.heap.size + 1, 4, none⟩ (.int .i64 kd)).setCell ⟨w.heap.size + 1, 5, none⟩ (.int .i64 ak)).setCell ⟨w.heap.size + 1, 6, none⟩ (.string ky)).setCell ⟨w.heap.size + 1, 7, none⟩ (.string vl)).setCell ⟨w.heap.size + 1, 8, none⟩ (.string lo)).setCell ⟨w.heap.size + 1, 9, none⟩ (.string hi)).setCell ⟨w.heap.size + 1, 10, none⟩ (.int .i64 mo)).setCell ⟨w.heap.size + 1, 11, none⟩ (.bool bk)) (w.heap.size + 1) 39 [.int .i64 k, .int .i64 a, .int .i64 b, .slice (some ⟨g0, 0, none⟩) kn kn, .int .i64 kd, .int .i64 ak, .string ky, .string vl, .string lo, .string hi, .int .i64 mo, .bool bk]) := st_sets J4.out _ _ _ _ _ _ _ _ _ _ _ _
  have O5 : Hid (Only (fun y => y = w.heap.size + 1 ∨ y = w.heap.size + 1 + 1) w3 ((((((((((((((((((((w3.setCell ⟨w.heap.size + 1 + 1, 4, none⟩ (.int .i64 kd)).setCell ⟨w.heap.size + 1 + 1, 5, none⟩ (.int .i64 ak)).setCell ⟨w.heap.size + 1 + 1, 6, none⟩ (.string ky)).setCell ⟨w.heap.size + 1 + 1, 7, none⟩ (.string vl)).setCell ⟨w.heap.size + 1 + 1, 8, none⟩ (.string lo)).setCell ⟨w.heap.size + 1 + 1, 9, none⟩ (.string hi)).setCell ⟨w.heap.size + 1 + 1, 10, none⟩ (.int .i64 mo)).setCell ⟨w.heap.size + 1 + 1, 11, none⟩ (.bool bk)).setCell ⟨w.heap.size + 1, 0, none⟩ (.int .i64 k)).setCell ⟨w.heap.size + 1, 1, none⟩ (.int .i64 a)).setCell ⟨w.heap.size + 1, 2, none⟩ (.int .i64 b)).setCell ⟨w.heap.size + 1, 3, none⟩ (.slice (some ⟨g0, 0, none⟩) kn kn)).setCell ⟨w.heap.size + 1, 4, none⟩ (.int .i64 kd)).setCell ⟨w.heap.size + 1, 5, none⟩ (.int .i64 ak)).setCell ⟨w.heap.size + 1, 6, none⟩ (.string ky)).setCell ⟨w.heap.size + 1, 7, none⟩ (.string vl)).setCell ⟨w.heap.size + 1, 8, none⟩ (.string lo)).setCell ⟨w.heap.size + 1, 9, none⟩ (.string hi)).setCell ⟨w.heap.size + 1, 10, none⟩ (.int .i64 mo)).setCell ⟨w.heap.size + 1, 11, none⟩ (.bool bk))) := (only_step (only_step (only_step (only_step (only_step (only_step (only_step (only_set (R := fun y => y = w.heap.size + 1 ∨ y = w.heap.size + 1 + 1) (p := ⟨w.heap.size + 1 + 1, 4, none⟩) (.inr rfl) _) (.inr rfl) 5 _) (.inr rfl) 6 _) (.inr rfl) 7 _) (.inr rfl) 8 _) (.inr rfl) 9 _) (.inr rfl) 10 _) (.inr rfl) 11 _).trans (st_only (R := fun y => y = w.heap.size + 1 ∨ y = w.heap.size + 1 + 1) (.inl rfl) _ _ _ _ _ _ _ _ _ _ _ _)
  have HF : Hid (∀ W, Only (fun y => y = w.heap.size + 1 ∨ y = w.heap.size + 1 + 1) w3 W → (w.heap.size ≤ g0 ∧ Bk W g0 3 (kp.map (Value.int .i64))) ∧ Below w.heap.size w W) := fun W hW => ⟨⟨by omega, N3.out.to hW (fun e => by omega)⟩, B3.out.trans (hW.below B3.out.size (fun b hb e => by omega))⟩
  clear J3 J4 I3 N3 B3
  go_wp2
  try simp only [Exit.inBlock, Exit.then]
  generalize ((((((((((((((((((((w3.setCell ⟨w.heap.size + 1 + 1, 4, none⟩ (.int .i64 kd)).setCell ⟨w.heap.size + 1 + 1, 5, none⟩ (.int .i64 ak)).setCell ⟨w.heap.size + 1 + 1, 6, none⟩ (.string ky)).setCell ⟨w.heap.size + 1 + 1, 7, none⟩ (.string vl)).setCell ⟨w.heap.size + 1 + 1, 8, none⟩ (.string lo)).setCell ⟨w.heap.size + 1 + 1, 9, none⟩ (.string hi)).setCell ⟨w.heap.size + 1 + 1, 10, none⟩ (.int .i64 mo)).setCell ⟨w.heap.size + 1 + 1, 11, none⟩ (.bool bk)).setCell ⟨w.heap.size + 1, 0, none⟩ (.int .i64 k)).setCell ⟨w.heap.size + 1, 1, none⟩ (.int .i64 a)).setCell ⟨w.heap.size + 1, 2, none⟩ (.int .i64 b)).setCell ⟨w.heap.size + 1, 3, none⟩ (.slice (some ⟨g0, 0, none⟩) kn kn)).setCell ⟨w.heap.size + 1, 4, none⟩ (.int .i64 kd)).setCell ⟨w.heap.size + 1, 5, none⟩ (.int .i64 ak)).setCell ⟨w.heap.size + 1, 6, none⟩ (.string ky)).setCell ⟨w.heap.size + 1, 7, none⟩ (.string vl)).setCell ⟨w.heap.size + 1, 8, none⟩ (.string lo)).setCell ⟨w.heap.size + 1, 9, none⟩ (.string hi)).setCell ⟨w.heap.size + 1, 10, none⟩ (.int .i64 mo)).setCell ⟨w.heap.size + 1, 11, none⟩ (.bool bk)) = W9 at *
  clear y0 z0 e0 y1 z1 e1 y2 z2 e2 y3 z3 e3 y4 z4 e4 y5 z5 e5 y6 z6 e6 y7 z7 e7 y8 z8 e8 y9 z9 e9 y10 z10 e10 y11 z11 e11 f4 f5 f6 f7 f8 f9 f10 f11
  refine bodyPost_ret (v := .agg #[.int .i64 k, .int .i64 a, .int .i64 b, .slice (some ⟨g0, 0, none⟩) kn kn, .int .i64 kd, .int .i64 ak, .string ky, .string vl, .string lo, .string hi, .int .i64 mo, .bool bk]) ?_ rfl ?_
  · exact results_step rfl _ _ _ rfl (J5.out.cell (j := 0) rfl) (J5.out.cell (j := 1) rfl) (J5.out.cell (j := 2) rfl) (J5.out.cell (j := 3) rfl) (J5.out.cell (j := 4) rfl) (J5.out.cell (j := 5) rfl) (J5.out.cell (j := 6) rfl) (J5.out.cell (j := 7) rfl) (J5.out.cell (j := 8) rfl) (J5.out.cell (j := 9) rfl) (J5.out.cell (j := 10) rfl) (J5.out.cell (j := 11) rfl)
  · exact ⟨g0, rfl, HF.out _ O5.out⟩
end Go.Proofs.YtjddkofpfmjojaaDoor
/-
  Steps: how great the law's helper finds one; that one is the same as itself.
-/
namespace Go.Proofs.YtjddkofpfmjojaaDoor
open Go.RowKit
set_option linter.unusedVariables false
set_option maxHeartbeats 3200000 in
theorem szStep_any (S : Nat → Prop) (k a b : Int) (ka : Option Addr) (kn kc : Nat) (kp : List Int) (kd ak : Int) (ky vl lo hi : ByteArray) (mo : Int) (bk : Bool) (left : Int) (w : World) (h1 : Ir w S (.slice ka kn kc) kp) (h0 : 0 ≤ left) (hle : left ≤ 1048576) (hl : (ky.size ≤ 9223372036854775807 ∧ vl.size ≤ 9223372036854775807 ∧ lo.size ≤ 9223372036854775807 ∧ hi.size ≤ 9223372036854775807)) :
    Calls Tryd.prog 5 #[.agg #[.int .i64 k, .int .i64 a, .int .i64 b, .slice ka kn kc, .int .i64 kd, .int .i64 ak, .string ky, .string vl, .string lo, .string hi, .int .i64 mo, .bool bk], .int .i64 left] w fun e w' => (∃ x : Int, e = .returned (.int .i64 x) ∧ x ≤ left ∧ -1 ≤ x ∧ (0 ≤ x → kn ≤ 1048576)) ∧ Below w.heap.size w w' := by
  have B0 := hid (below_new (o := .cells #[.int .i64 k, .int .i64 a, .int .i64 b, .slice ka kn kc, .int .i64 kd, .int .i64 ak, .string ky, .string vl, .string lo, .string hi, .int .i64 mo, .bool bk] 30) (w := w) (Below.refl _ _))
  have K0 := hid (Bk.new w 30 [.int .i64 k, .int .i64 a, .int .i64 b, .slice ka kn kc, .int .i64 kd, .int .i64 ak, .string ky, .string vl, .string lo, .string hi, .int .i64 mo, .bool bk])
  have hkn : kn ≤ 9223372036854775807 := by have := Rw.len h1; omega
  have C1 := hid (fun w => szIntS_at ka kn kc left w hkn h0 hle)
  have C2 := hid (fun l w h0 h1 => szCall_any kd ak ky vl lo hi mo bk l w h0 h1 hl)
  have x3 := K0.out.cell (j := 3) rfl
  clear h1 hl
  go_enter Tryd.func5, Tryd.ntmps5
  go_wp2_with fail
  refine (C1.out _).mono ?_
  generalize w.alloc (.cells #[.int .i64 k, .int .i64 a, .int .i64 b, .slice ka kn kc, .int .i64 kd, .int .i64 ak, .string ky, .string vl, .string lo, .string hi, .int .i64 mo, .bool bk] 30) = U at *
  rintro r w1 ⟨⟨x, rfl, hx1, hx2, hx3⟩, hb⟩
  have B1 := hid (btR B0.out hb)
  have K1 := hid (K0.out.below hb)
  have HX := hid hx3
  clear hb B0 K0 x3 hx3
  have x4 := K1.out.cell (j := 4) rfl
  have x5 := K1.out.cell (j := 5) rfl
  have x6 := K1.out.cell (j := 6) rfl
  have x7 := K1.out.cell (j := 7) rfl
  have x8 := K1.out.cell (j := 8) rfl
  have x9 := K1.out.cell (j := 9) rfl
  have x10 := K1.out.cell (j := 10) rfl
  have x11 := K1.out.cell (j := 11) rfl
  by_cases hneg : x < 0
  · go_wp2
    go_ret
    exact ⟨⟨_, rfl, by omega, by omega, fun h => by omega⟩, B1.out⟩
  · go_wp2_with fail
    refine (C2.out x _ (by omega) (by omega)).mono ?_
    rintro r w2 ⟨⟨y, rfl, hy1, hy2⟩, hb⟩
    have B2 := hid (btR B1.out hb)
    clear hb B1 K1 x4 x5 x6 x7 x8 x9 x10 x11
    by_cases hneg2 : y < 0
    · go_wp2
      go_ret
      exact ⟨⟨_, rfl, by omega, by omega, fun h => by omega⟩, B2.out⟩
    · go_wp2
      go_ret
      exact ⟨⟨_, rfl, by omega, by omega, fun _ => HX.out (by omega)⟩, B2.out⟩
set_option maxHeartbeats 3200000 in
theorem eqCall_same (kd ak : Int) (ky vl lo hi : ByteArray) (mo : Int) (bk : Bool) (w : World) : Calls Tryd.prog 28 #[.agg #[.int .i64 kd, .int .i64 ak, .string ky, .string vl, .string lo, .string hi, .int .i64 mo, .bool bk], .agg #[.int .i64 kd, .int .i64 ak, .string ky, .string vl, .string lo, .string hi, .int .i64 mo, .bool bk]] w fun r w' => r = .returned (.bool true) ∧ Below w.heap.size w w' := by
  have C1 := hid (fun w => eqAsk_same ak ky vl lo hi mo bk w)
  have hz0 : (kd != kd) = false := by simp
  have B0 : Hid (Below w.heap.size w ((w.alloc (.cells #[.int .i64 kd, .int .i64 ak, .string ky, .string vl, .string lo, .string hi, .int .i64 mo, .bool bk] 37)).alloc (.cells #[.int .i64 kd, .int .i64 ak, .string ky, .string vl, .string lo, .string hi, .int .i64 mo, .bool bk] 37))) := below_new (below_new (Below.refl _ _))
  have K0 := hid ((Bk.new w 37 [.int .i64 kd, .int .i64 ak, .string ky, .string vl, .string lo, .string hi, .int .i64 mo, .bool bk]).alloc (.cells #[.int .i64 kd, .int .i64 ak, .string ky, .string vl, .string lo, .string hi, .int .i64 mo, .bool bk] 37))
  have J0 := hid (Bk.new (w.alloc (.cells #[.int .i64 kd, .int .i64 ak, .string ky, .string vl, .string lo, .string hi, .int .i64 mo, .bool bk] 37)) 37 [.int .i64 kd, .int .i64 ak, .string ky, .string vl, .string lo, .string hi, .int .i64 mo, .bool bk])
  rw [show (w.alloc (.cells #[.int .i64 kd, .int .i64 ak, .string ky, .string vl, .string lo, .string hi, .int .i64 mo, .bool bk] 37)).heap.size = w.heap.size + 1 by simp] at J0
  have x0 := K0.out.cell (j := 0) rfl
  have y0 := J0.out.cell (j := 0) rfl
  have x1 := K0.out.cell (j := 1) rfl
  have y1 := J0.out.cell (j := 1) rfl
  have x2 := K0.out.cell (j := 2) rfl
  have y2 := J0.out.cell (j := 2) rfl
  have x3 := K0.out.cell (j := 3) rfl
  have y3 := J0.out.cell (j := 3) rfl
  have x4 := K0.out.cell (j := 4) rfl
  have y4 := J0.out.cell (j := 4) rfl
  have x5 := K0.out.cell (j := 5) rfl
  have y5 := J0.out.cell (j := 5) rfl
  have x6 := K0.out.cell (j := 6) rfl
  have y6 := J0.out.cell (j := 6) rfl
  have x7 := K0.out.cell (j := 7) rfl
  have y7 := J0.out.cell (j := 7) rfl
  go_enter Tryd.func28, Tryd.ntmps28
  go_wp2_with fail
  refine (C1.out _).mono ?_
  generalize (w.alloc (.cells #[.int .i64 kd, .int .i64 ak, .string ky, .string vl, .string lo, .string hi, .int .i64 mo, .bool bk] 37)).alloc (.cells #[.int .i64 kd, .int .i64 ak, .string ky, .string vl, .string lo, .string hi, .int .i64 mo, .bool bk] 37) = U at *
  rintro r w1 ⟨rfl, hb⟩
  have B1 := hid (btR B0.out hb)
  clear hb B0
  go_wp2
  go_ret
  exact ⟨rfl, B1.out⟩
set_option maxHeartbeats 8000000 in
theorem eqStep_same (S S' : Nat → Prop) (k a b : Int) (ka : Option Addr) (kn kc : Nat) (kp : List Int) (kd ak : Int) (ky vl lo hi : ByteArray) (mo : Int) (bk : Bool) (ka' : Option Addr) (kn' kc' : Nat) (w : World) (h : Ir w S (.slice ka kn kc) kp) (h' : Ir w S' (.slice ka' kn' kc') kp) :
    Calls Tryd.prog 9 #[.agg #[.int .i64 k, .int .i64 a, .int .i64 b, .slice ka kn kc, .int .i64 kd, .int .i64 ak, .string ky, .string vl, .string lo, .string hi, .int .i64 mo, .bool bk], .agg #[.int .i64 k, .int .i64 a, .int .i64 b, .slice ka' kn' kc', .int .i64 kd, .int .i64 ak, .string ky, .string vl, .string lo, .string hi, .int .i64 mo, .bool bk]] w fun r w' => r = .returned (.bool true) ∧ Below w.heap.size w w' := by
  have C1 : Hid (∀ v, Below w.heap.size w v → Calls Tryd.prog 27 #[.slice ka kn kc, .slice ka' kn' kc'] v fun e w' => e = .returned (.bool true) ∧ Below v.heap.size v w') := fun v hb => by
    have := eqIntS_at S S' ka ka' kn kn' kc kc' kp kp v (h.below hb) (h'.below hb)
    simpa using this
  have C2 := hid (fun w => eqCall_same kd ak ky vl lo hi mo bk w)
  have hz0 : (k != k) = false := by simp
  have hz1 : (a != a) = false := by simp
  have hz2 : (b != b) = false := by simp
  have B0 : Hid (Below w.heap.size w ((w.alloc (.cells #[.int .i64 k, .int .i64 a, .int .i64 b, .slice ka kn kc, .int .i64 kd, .int .i64 ak, .string ky, .string vl, .string lo, .string hi, .int .i64 mo, .bool bk] 39)).alloc (.cells #[.int .i64 k, .int .i64 a, .int .i64 b, .slice ka' kn' kc', .int .i64 kd, .int .i64 ak, .string ky, .string vl, .string lo, .string hi, .int .i64 mo, .bool bk] 39))) := below_new (below_new (Below.refl _ _))
  have K0 := hid ((Bk.new w 39 [.int .i64 k, .int .i64 a, .int .i64 b, .slice ka kn kc, .int .i64 kd, .int .i64 ak, .string ky, .string vl, .string lo, .string hi, .int .i64 mo, .bool bk]).alloc (.cells #[.int .i64 k, .int .i64 a, .int .i64 b, .slice ka' kn' kc', .int .i64 kd, .int .i64 ak, .string ky, .string vl, .string lo, .string hi, .int .i64 mo, .bool bk] 39))
  have J0 := hid (Bk.new (w.alloc (.cells #[.int .i64 k, .int .i64 a, .int .i64 b, .slice ka kn kc, .int .i64 kd, .int .i64 ak, .string ky, .string vl, .string lo, .string hi, .int .i64 mo, .bool bk] 39)) 39 [.int .i64 k, .int .i64 a, .int .i64 b, .slice ka' kn' kc', .int .i64 kd, .int .i64 ak, .string ky, .string vl, .string lo, .string hi, .int .i64 mo, .bool bk])
  rw [show (w.alloc (.cells #[.int .i64 k, .int .i64 a, .int .i64 b, .slice ka kn kc, .int .i64 kd, .int .i64 ak, .string ky, .string vl, .string lo, .string hi, .int .i64 mo, .bool bk] 39)).heap.size = w.heap.size + 1 by simp] at J0
  clear h h'
  have x0 := K0.out.cell (j := 0) rfl
  have y0 := J0.out.cell (j := 0) rfl
  have x1 := K0.out.cell (j := 1) rfl
  have y1 := J0.out.cell (j := 1) rfl
  have x2 := K0.out.cell (j := 2) rfl
  have y2 := J0.out.cell (j := 2) rfl
  have x3 := K0.out.cell (j := 3) rfl
  have y3 := J0.out.cell (j := 3) rfl
  go_enter Tryd.func9, Tryd.ntmps9
  go_wp2_with fail
  refine (C1.out _ B0.out).mono ?_
  generalize (w.alloc (.cells #[.int .i64 k, .int .i64 a, .int .i64 b, .slice ka kn kc, .int .i64 kd, .int .i64 ak, .string ky, .string vl, .string lo, .string hi, .int .i64 mo, .bool bk] 39)).alloc (.cells #[.int .i64 k, .int .i64 a, .int .i64 b, .slice ka' kn' kc', .int .i64 kd, .int .i64 ak, .string ky, .string vl, .string lo, .string hi, .int .i64 mo, .bool bk] 39) = U at *
  rintro r w1 ⟨rfl, hb⟩
  have B1 := hid (btR B0.out hb)
  have K1 := hid (K0.out.below hb)
  have J1 := hid (J0.out.below hb)
  clear hb B0 K0 J0 x0 y0 x1 y1 x2 y2 x3 y3
  have x4 := K1.out.cell (j := 4) rfl
  have y4 := J1.out.cell (j := 4) rfl
  have x5 := K1.out.cell (j := 5) rfl
  have y5 := J1.out.cell (j := 5) rfl
  have x6 := K1.out.cell (j := 6) rfl
  have y6 := J1.out.cell (j := 6) rfl
  have x7 := K1.out.cell (j := 7) rfl
  have y7 := J1.out.cell (j := 7) rfl
  have x8 := K1.out.cell (j := 8) rfl
  have y8 := J1.out.cell (j := 8) rfl
  have x9 := K1.out.cell (j := 9) rfl
  have y9 := J1.out.cell (j := 9) rfl
  have x10 := K1.out.cell (j := 10) rfl
  have y10 := J1.out.cell (j := 10) rfl
  have x11 := K1.out.cell (j := 11) rfl
  have y11 := J1.out.cell (j := 11) rfl
  go_wp2_with fail
  refine (C2.out _).mono ?_
  rintro r w2 ⟨rfl, hb⟩
  have B2 := hid (btR B1.out hb)
  clear hb B1 K1 J1 x4 y4 x5 y5 x6 y6 x7 y7 x8 y8 x9 y9 x10 y10 x11 y11
  go_wp2
  go_ret
  exact ⟨rfl, B2.out⟩
end Go.Proofs.YtjddkofpfmjojaaDoor
/-
  The law FnExactStepText answers true at every step.
-/
namespace Go.Proofs.YtjddkofpfmjojaaDoor
open Go.RowKit
set_option linter.unusedVariables false
theorem ir_bk {w : World} {g n : Nat} {l : List Int} (hl : n = l.length) (hn : n ≤ 1048576) (h : Bk w g 3 (l.map (Value.int .i64))) : Ir w (fun _ => True) (.slice (some ⟨g, 0, none⟩) n n) l := by
  subst hl
  exact rw_own (bk_own (B := 0) (size := 1) h (by simp) hn (Nat.zero_le _)) (fun _ _ _ _ => trivial)
set_option maxHeartbeats 8000000 in
set_option maxRecDepth 20000 in
theorem lawStepText_walk (k a b : Int) (ka : Option Addr) (kn kc : Nat) (kp : List Int) (kd ak : Int) (ky vl lo hi : ByteArray) (mo : Int) (bk : Bool) (w : World) (h : Ir w (fun _ => True) (.slice ka kn kc) kp ∧ ky.size ≤ maxLen ∧ vl.size ≤ maxLen ∧ lo.size ≤ maxLen ∧ hi.size ≤ maxLen) (ht : Tab w) (he : Err w 0) (hg : 0 < w.heap.size) (hq : 2 < w.heap.size) :
    Calls Tryd.prog 3 #[.agg #[.int .i64 k, .int .i64 a, .int .i64 b, .slice ka kn kc, .int .i64 kd, .int .i64 ak, .string ky, .string vl, .string lo, .string hi, .int .i64 mo, .bool bk]] w fun e w' => e = .returned (.bool true) ∧ Below w.heap.size w w' := by
  have hw : GW w := ⟨ht, he, hq, hg⟩
  have hl := h.2
  unfold maxLen at hl
  have HN : Hid (kn = kp.length) := (Rw.len h.1).1
  have B0 := hid (below_new (o := .cells #[.int .i64 k, .int .i64 a, .int .i64 b, .slice ka kn kc, .int .i64 kd, .int .i64 ak, .string ky, .string vl, .string lo, .string hi, .int .i64 mo, .bool bk] 30) (w := w) (Below.refl _ _))
  have K0 := hid (Bk.new w 30 [.int .i64 k, .int .i64 a, .int .i64 b, .slice ka kn kc, .int .i64 kd, .int .i64 ak, .string ky, .string vl, .string lo, .string hi, .int .i64 mo, .bool bk])
  have G0 := hid (hw.to B0.out)
  have H0 := hid (h.1.below B0.out)
  have CS := hid (fun w h => szStep_any (fun _ => True) k a b ka kn kc kp kd ak ky vl lo hi mo bk 1048576 w h (by omega) (by omega) hl)
  clear hw ht he hg hq
  have x0 := K0.out.cell (j := 0) rfl
  have x1 := K0.out.cell (j := 1) rfl
  have x2 := K0.out.cell (j := 2) rfl
  have x3 := K0.out.cell (j := 3) rfl
  have x4 := K0.out.cell (j := 4) rfl
  have x5 := K0.out.cell (j := 5) rfl
  have x6 := K0.out.cell (j := 6) rfl
  have x7 := K0.out.cell (j := 7) rfl
  have x8 := K0.out.cell (j := 8) rfl
  have x9 := K0.out.cell (j := 9) rfl
  have x10 := K0.out.cell (j := 10) rfl
  have x11 := K0.out.cell (j := 11) rfl
  clear h
  go_enter Tryd.func3, Tryd.ntmps3
  go_wp2_with fail
  refine (CS.out _ H0.out).mono ?_
  generalize w.alloc (.cells #[.int .i64 k, .int .i64 a, .int .i64 b, .slice ka kn kc, .int .i64 kd, .int .i64 ak, .string ky, .string vl, .string lo, .string hi, .int .i64 mo, .bool bk] 30) = U at *
  rintro r w1 ⟨⟨x, rfl, hx1, hx2, hx3⟩, hb⟩
  have B1 := hid (B0.out.trans (hb.mono B0.out.size))
  have K1 := hid (K0.out.below hb)
  have G1 := hid (G0.out.to hb)
  have H1 := hid (H0.out.below hb)
  have HX := hid hx3
  clear hb hx3 B0 K0 G0 H0 x0 x1 x2 x3 x4 x5 x6 x7 x8 x9 x10 x11
  by_cases hneg : x < 0
  · go_wp2
    go_ret
    exact ⟨rfl, B1.out⟩
  have hkn := HX.out (by omega)
  have CT := hid (fun w h => toStep_any (fun _ => True) k a b ka kn kc kp kd ak ky vl lo hi mo bk w h hkn)
  clear HX
  have x0 := K1.out.cell (j := 0) rfl
  have x1 := K1.out.cell (j := 1) rfl
  have x2 := K1.out.cell (j := 2) rfl
  have x3 := K1.out.cell (j := 3) rfl
  have x4 := K1.out.cell (j := 4) rfl
  have x5 := K1.out.cell (j := 5) rfl
  have x6 := K1.out.cell (j := 6) rfl
  have x7 := K1.out.cell (j := 7) rfl
  have x8 := K1.out.cell (j := 8) rfl
  have x9 := K1.out.cell (j := 9) rfl
  have x10 := K1.out.cell (j := 10) rfl
  have x11 := K1.out.cell (j := 11) rfl
  go_wp2_with fail
  refine (CT.out _ H1.out).mono ?_
  rintro r w2 ⟨gA, rfl, ⟨hgA, hbk⟩, hb⟩
  have RA := hid (ir_bk HN.out hkn hbk)
  clear hbk hgA
  have K2 := hid (K1.out.below hb)
  have G2 := hid (G1.out.to hb)
  have H2 := hid (H1.out.below hb)
  have B2 := hid (B1.out.trans (hb.mono B1.out.size))
  clear hb K1 G1 H1 B1 x0 x1 x2 x3 x4 x5 x6 x7 x8 x9 x10 x11
  go_wp2_with fail
  refine (specStepText_any _ k a b _ kn kn kp kd ak ky vl lo hi mo bk _ RA.out hkn).mono ?_
  rintro r w3 ⟨rfl, hb⟩
  clear RA
  have K3 := hid (K2.out.below hb)
  have G3 := hid (G2.out.to hb)
  have H3 := hid (H2.out.below hb)
  have B3 := hid (B2.out.trans (hb.mono B2.out.size))
  clear hb K2 G2 H2 B2
  have x0 := K3.out.cell (j := 0) rfl
  have x1 := K3.out.cell (j := 1) rfl
  have x2 := K3.out.cell (j := 2) rfl
  have x3 := K3.out.cell (j := 3) rfl
  have x4 := K3.out.cell (j := 4) rfl
  have x5 := K3.out.cell (j := 5) rfl
  have x6 := K3.out.cell (j := 6) rfl
  have x7 := K3.out.cell (j := 7) rfl
  have x8 := K3.out.cell (j := 8) rfl
  have x9 := K3.out.cell (j := 9) rfl
  have x10 := K3.out.cell (j := 10) rfl
  have x11 := K3.out.cell (j := 11) rfl
  go_wp2_with fail
  refine (CT.out _ H3.out).mono ?_
  rintro r w4 ⟨gB, rfl, ⟨hgB, hbk⟩, hb⟩
  have EB := hid hbk
  clear hbk hgB
  have K4 := hid (K3.out.below hb)
  have G4 := hid (G3.out.to hb)
  have H4 := hid (H3.out.below hb)
  have B4 := hid (B3.out.trans (hb.mono B3.out.size))
  clear hb K3 G3 H3 B3 x0 x1 x2 x3 x4 x5 x6 x7 x8 x9 x10 x11
  have hb := below_new (o := .cells #[.int .i64 k, .int .i64 a, .int .i64 b, .slice (some ⟨gB, 0, none⟩) kn kn, .int .i64 kd, .int .i64 ak, .string ky, .string vl, .string lo, .string hi, .int .i64 mo, .bool bk] 39) (w := w4) (Below.refl _ _)
  have X5 := hid (Bk.new w4 39 [.int .i64 k, .int .i64 a, .int .i64 b, .slice (some ⟨gB, 0, none⟩) kn kn, .int .i64 kd, .int .i64 ak, .string ky, .string vl, .string lo, .string hi, .int .i64 mo, .bool bk])
  have E5 := hid (EB.out.below hb)
  have K5 := hid (K4.out.below hb)
  have G5 := hid (G4.out.to hb)
  have H5 := hid (H4.out.below hb)
  have B5 := hid (B4.out.trans (hb.mono B4.out.size))
  have R5 := hid (ir_bk HN.out hkn E5.out)
  clear hb EB K4 G4 H4 B4
  have y0 := X5.out.cell (j := 0) rfl
  have y1 := X5.out.cell (j := 1) rfl
  have y2 := X5.out.cell (j := 2) rfl
  have y3 := X5.out.cell (j := 3) rfl
  have y4 := X5.out.cell (j := 4) rfl
  have y5 := X5.out.cell (j := 5) rfl
  have y6 := X5.out.cell (j := 6) rfl
  have y7 := X5.out.cell (j := 7) rfl
  have y8 := X5.out.cell (j := 8) rfl
  have y9 := X5.out.cell (j := 9) rfl
  have y10 := X5.out.cell (j := 10) rfl
  have y11 := X5.out.cell (j := 11) rfl
  go_wp2_with fail
  refine (implStepText_any _ k a b _ kn kn kp kd ak ky vl lo hi mo bk _ R5.out hkn G5.out).mono ?_
  generalize w4.alloc (.cells #[.int .i64 k, .int .i64 a, .int .i64 b, .slice (some ⟨gB, 0, none⟩) kn kn, .int .i64 kd, .int .i64 ak, .string ky, .string vl, .string lo, .string hi, .int .i64 mo, .bool bk] 39) = w5 at *
  generalize w4.heap.size = gX at *
  rintro r w6 ⟨rfl, hb⟩
  have X6 := hid (X5.out.below hb)
  have E6 := hid (E5.out.below hb)
  have K6 := hid (K5.out.below hb)
  have H6 := hid (H5.out.below hb)
  have B6 := hid (B5.out.trans (hb.mono B5.out.size))
  clear hb X5 E5 K5 G5 H5 B5 R5 y0 y1 y2 y3 y4 y5 y6 y7 y8 y9 y10 y11
  have HV : Hid (∃ z, z = stT ⟨k, a, b, kp, kd, ak, ky, vl, lo, hi, mo, bk⟩) := ⟨_, rfl⟩
  obtain ⟨z, hz⟩ := HV.out
  rw [← hz]
  have hzl := bl_same z
  clear hz HV
  go_wp2_with fail
  clear hzl
  refine wp_region_noPanic ?_
  refine wp_region_held_drew (S := fun v => v.cell? ⟨gX, 0, none⟩ = some (.int .i64 k) ∧ v.cell? ⟨gX, 1, none⟩ = some (.int .i64 a) ∧ v.cell? ⟨gX, 2, none⟩ = some (.int .i64 b) ∧ v.cell? ⟨gX, 3, none⟩ = some (.slice (some ⟨gB, 0, none⟩) kn kn) ∧ v.cell? ⟨gX, 4, none⟩ = some (.int .i64 kd) ∧ v.cell? ⟨gX, 5, none⟩ = some (.int .i64 ak) ∧ v.cell? ⟨gX, 6, none⟩ = some (.string ky) ∧ v.cell? ⟨gX, 7, none⟩ = some (.string vl) ∧ v.cell? ⟨gX, 8, none⟩ = some (.string lo) ∧ v.cell? ⟨gX, 9, none⟩ = some (.string hi) ∧ v.cell? ⟨gX, 10, none⟩ = some (.int .i64 mo) ∧ v.cell? ⟨gX, 11, none⟩ = some (.bool bk) ∧ v.cell? ⟨w.heap.size, 0, none⟩ = some (.int .i64 k) ∧ v.cell? ⟨w.heap.size, 1, none⟩ = some (.int .i64 a) ∧ v.cell? ⟨w.heap.size, 2, none⟩ = some (.int .i64 b) ∧ v.cell? ⟨w.heap.size, 3, none⟩ = some (.slice ka kn kc) ∧ v.cell? ⟨w.heap.size, 4, none⟩ = some (.int .i64 kd) ∧ v.cell? ⟨w.heap.size, 5, none⟩ = some (.int .i64 ak) ∧ v.cell? ⟨w.heap.size, 6, none⟩ = some (.string ky) ∧ v.cell? ⟨w.heap.size, 7, none⟩ = some (.string vl) ∧ v.cell? ⟨w.heap.size, 8, none⟩ = some (.string lo) ∧ v.cell? ⟨w.heap.size, 9, none⟩ = some (.string hi) ∧ v.cell? ⟨w.heap.size, 10, none⟩ = some (.int .i64 mo) ∧ v.cell? ⟨w.heap.size, 11, none⟩ = some (.bool bk)) (by kernel_rfl) (⟨(X6.out.below (below_drew _)).cell (j := 0) rfl, (X6.out.below (below_drew _)).cell (j := 1) rfl, (X6.out.below (below_drew _)).cell (j := 2) rfl, (X6.out.below (below_drew _)).cell (j := 3) rfl, (X6.out.below (below_drew _)).cell (j := 4) rfl, (X6.out.below (below_drew _)).cell (j := 5) rfl, (X6.out.below (below_drew _)).cell (j := 6) rfl, (X6.out.below (below_drew _)).cell (j := 7) rfl, (X6.out.below (below_drew _)).cell (j := 8) rfl, (X6.out.below (below_drew _)).cell (j := 9) rfl, (X6.out.below (below_drew _)).cell (j := 10) rfl, (X6.out.below (below_drew _)).cell (j := 11) rfl, (K6.out.below (below_drew _)).cell (j := 0) rfl, (K6.out.below (below_drew _)).cell (j := 1) rfl, (K6.out.below (below_drew _)).cell (j := 2) rfl, (K6.out.below (below_drew _)).cell (j := 3) rfl, (K6.out.below (below_drew _)).cell (j := 4) rfl, (K6.out.below (below_drew _)).cell (j := 5) rfl, (K6.out.below (below_drew _)).cell (j := 6) rfl, (K6.out.below (below_drew _)).cell (j := 7) rfl, (K6.out.below (below_drew _)).cell (j := 8) rfl, (K6.out.below (below_drew _)).cell (j := 9) rfl, (K6.out.below (below_drew _)).cell (j := 10) rfl, (K6.out.below (below_drew _)).cell (j := 11) rfl⟩) (fun hHeld => ?_)
  simp only [List.size_toArray, List.length_cons, List.length_nil, Array.replicate_succ, Array.replicate_zero, Nat.reduceAdd, List.push_toArray, List.nil_append, List.cons_append]
  refine wpAnyH_take (i := 0) (v := (.agg #[.int .i64 k, .int .i64 a, .int .i64 b, .slice (some ⟨gB, 0, none⟩) kn kn, .int .i64 kd, .int .i64 ak, .string ky, .string vl, .string lo, .string hi, .int .i64 mo, .bool bk])) rfl (by kernel_rfl) (by kernel_rfl) (by kernel_rfl) (fun _ _ _ h => h) (Or.inl ⟨by rfl, ?_⟩) (by assumption) ?_
  · intro w hSw
    (try dsimp only at hSw)
    go_simp
  try simp only [List.getElem_toArray]
  try simp only [List.getElem_cons_succ]
  try simp only [List.getElem_cons_zero]
  try simp only [Act.put]
  try simp only [List.setIfInBounds_toArray]
  try simp only [List.set_cons_succ]
  try simp only [List.set_cons_zero]
  refine wpAnyH_take (i := 1) (v := (.agg #[.int .i64 k, .int .i64 a, .int .i64 b, .slice ka kn kc, .int .i64 kd, .int .i64 ak, .string ky, .string vl, .string lo, .string hi, .int .i64 mo, .bool bk])) rfl (by kernel_rfl) (by kernel_rfl) (by kernel_rfl) (fun _ _ _ h => h) (Or.inl ⟨by rfl, ?_⟩) (by assumption) ?_
  · intro w hSw
    (try dsimp only at hSw)
    go_simp
  try simp only [List.getElem_toArray]
  try simp only [List.getElem_cons_succ]
  try simp only [List.getElem_cons_zero]
  try simp only [Act.put]
  try simp only [List.setIfInBounds_toArray]
  try simp only [List.set_cons_succ]
  try simp only [List.set_cons_zero]
  have X7 := hid (X6.out.below (below_drew _))
  have K7 := hid (K6.out.below (below_drew _))
  have E7 := hid (E6.out.below (below_drew _))
  have H7 := hid (H6.out.below (below_drew _))
  have B7 := hid (B6.out.trans ((below_drew w6).mono B6.out.size))
  clear X6 K6 E6 H6 B6
  generalize w6.drew = w7 at *
  refine wpAnyH_ready (rs := [2]) (by kernel_rfl) (by simp) ?_
  refine AllReadyH.cons rfl (fun K1 hK => ?_) AllReadyH.nil
  go_simp
  refine (CT.out _ H7.out).mono ?_
  rintro r w8 ⟨gC, rfl, ⟨hgC, hbk⟩, hb⟩
  go_wp2_with fail
  have R8 := hid (ir_bk HN.out hkn hbk)
  have X8 := hid (X7.out.below hb)
  have K8 := hid (K7.out.below hb)
  have E8 := hid (E7.out.below hb)
  have B8 := hid (B7.out.trans (hb.mono B7.out.size))
  have Q8 := hid (ir_bk HN.out hkn E8.out)
  clear hb hbk hgC X7 K7 E7 H7 B7
  refine hK.out _ _ ?_ (fun hHeld => ?_)
  · exact ⟨X8.out.cell (j := 0) rfl, X8.out.cell (j := 1) rfl, X8.out.cell (j := 2) rfl, X8.out.cell (j := 3) rfl, X8.out.cell (j := 4) rfl, X8.out.cell (j := 5) rfl, X8.out.cell (j := 6) rfl, X8.out.cell (j := 7) rfl, X8.out.cell (j := 8) rfl, X8.out.cell (j := 9) rfl, X8.out.cell (j := 10) rfl, X8.out.cell (j := 11) rfl, K8.out.cell (j := 0) rfl, K8.out.cell (j := 1) rfl, K8.out.cell (j := 2) rfl, K8.out.cell (j := 3) rfl, K8.out.cell (j := 4) rfl, K8.out.cell (j := 5) rfl, K8.out.cell (j := 6) rfl, K8.out.cell (j := 7) rfl, K8.out.cell (j := 8) rfl, K8.out.cell (j := 9) rfl, K8.out.cell (j := 10) rfl, K8.out.cell (j := 11) rfl⟩
  clear hK K1
  try simp only [List.getElem_toArray]
  try simp only [List.getElem_cons_succ]
  try simp only [List.getElem_cons_zero]
  try simp only [Act.put]
  try simp only [List.setIfInBounds_toArray]
  try simp only [List.set_cons_succ]
  try simp only [List.set_cons_zero]
  refine wpAnyH_ready (rs := [3]) (by kernel_rfl) (by simp) ?_
  refine AllReadyH.cons rfl (fun K1 hK => ?_) AllReadyH.nil
  go_simp
  refine (eqStep_same _ _ k a b _ kn kn kp kd ak ky vl lo hi mo bk _ kn kn _ Q8.out R8.out).mono ?_
  rintro r w9 ⟨rfl, hb⟩
  go_wp2_with fail
  have X9 := hid (X8.out.below hb)
  have K9 := hid (K8.out.below hb)
  have B9 := hid (B8.out.trans (hb.mono B8.out.size))
  clear hb X8 K8 B8 Q8 R8 E8
  refine hK.out _ _ ?_ (fun hHeld => ?_)
  · exact ⟨X9.out.cell (j := 0) rfl, X9.out.cell (j := 1) rfl, X9.out.cell (j := 2) rfl, X9.out.cell (j := 3) rfl, X9.out.cell (j := 4) rfl, X9.out.cell (j := 5) rfl, X9.out.cell (j := 6) rfl, X9.out.cell (j := 7) rfl, X9.out.cell (j := 8) rfl, X9.out.cell (j := 9) rfl, X9.out.cell (j := 10) rfl, X9.out.cell (j := 11) rfl, K9.out.cell (j := 0) rfl, K9.out.cell (j := 1) rfl, K9.out.cell (j := 2) rfl, K9.out.cell (j := 3) rfl, K9.out.cell (j := 4) rfl, K9.out.cell (j := 5) rfl, K9.out.cell (j := 6) rfl, K9.out.cell (j := 7) rfl, K9.out.cell (j := 8) rfl, K9.out.cell (j := 9) rfl, K9.out.cell (j := 10) rfl, K9.out.cell (j := 11) rfl⟩
  clear hK K1
  try simp only [List.getElem_toArray]
  try simp only [List.getElem_cons_succ]
  try simp only [List.getElem_cons_zero]
  try simp only [Act.put]
  try simp only [List.setIfInBounds_toArray]
  try simp only [List.set_cons_succ]
  try simp only [List.set_cons_zero]
  refine wpAnyH_take (i := 4) (v := (.bool false)) rfl (by kernel_rfl) (by kernel_rfl) (by kernel_rfl) (fun _ _ _ h => h) (Or.inl ⟨by rfl, ?_⟩) (by assumption) ?_
  · intro w hSw
    (try dsimp only at hSw)
    go_simp
  try simp only [List.getElem_toArray]
  try simp only [List.getElem_cons_succ]
  try simp only [List.getElem_cons_zero]
  try simp only [Act.put]
  try simp only [List.setIfInBounds_toArray]
  try simp only [List.set_cons_succ]
  try simp only [List.set_cons_zero]
  refine wpAnyH_done (by kernel_rfl) ?_ _
  refine NoPanic.normal ?_
  go_wp2
  go_ret
  exact ⟨rfl, B9.out⟩
end Go.Proofs.YtjddkofpfmjojaaDoor
/-
  What is known of names of transactions, of locks and of tables of locks that come in as arguments.
-/
namespace Go.Proofs.YtjddkofpfmjojaaDoor
open Go.ChangeShapes Go.WideShapes Go.ChangeAt Go.RowKit
theorem arrX3 {α : Type} {cs : Array α} (h : cs.size = 3) : ∃ a b c, cs = #[a, b, c] := by
  obtain ⟨l⟩ := cs
  match l, h with
  | [a, b, c], _ => exact ⟨a, b, c, rfl⟩
theorem arrX6 {α : Type} {cs : Array α} (h : cs.size = 6) : ∃ a b c d e f, cs = #[a, b, c, d, e, f] := by
  obtain ⟨l⟩ := cs
  match l, h with
  | [a, b, c, d, e, f], _ => exact ⟨a, b, c, d, e, f, rfl⟩
theorem arrX2 {α : Type} {cs : Array α} (h : cs.size = 2) : ∃ a b, cs = #[a, b] := by
  obtain ⟨l⟩ := cs
  match l, h with
  | [a, b], _ => exact ⟨a, b, rfl⟩
set_option maxRecDepth 100000 in
theorem tx_three : ∃ f0 f1 f2 : Field, Tryd.prog.underlying 44 = some (.struct #[f0, f1, f2]) ∧ f0.type = 3 ∧ f1.type = 3 ∧ f2.type = 3 ∧ f0.offset = 0 ∧ f1.offset = 1 ∧ f2.offset = 2 := ⟨_, _, _, Tryd.underlying44, rfl, rfl, rfl, rfl, rfl, rfl⟩
set_option maxRecDepth 100000 in
theorem open_txc {H : Type} {enc : TypeId × Value → H} {w : World} {base : Nat} {spare : Nat → Bool} {held : Bool} {fuel : Nat} {v0 v1 v2 : Value} {x : DataW H × List MemPlace}
    (h : DataW.trod enc Tryd.prog w base spare held fuel 44 [v0, v1, v2] = some x) : ∃ t : TX, v0 = .int .i64 t.1 ∧ v1 = .int .i64 t.2.1 ∧ v2 = .int .i64 t.2.2 := by
  obtain ⟨f0, f1, f2, hs, t0, t1, t2, o0, o1, o2⟩ := tx_three
  have k0 : Tryd.prog.cellsOf 3 = 1 := by kernel_rfl
  obtain ⟨y0, y1, y2, n', _, _, d0, d1, d2⟩ := Go.Deep.trod_struct3 hs h
  rw [t0, o0, k0] at d0
  rw [t1, o1, k0] at d1
  rw [t2, o2, k0] at d2
  simp at d0 d1 d2
  obtain ⟨s0, e0, _⟩ := DataW.trod_int Tryd.underlying3 d0
  obtain ⟨s1, e1, _⟩ := DataW.trod_int Tryd.underlying3 d1
  obtain ⟨s2, e2, _⟩ := DataW.trod_int Tryd.underlying3 d2
  simp at e0 e1 e2
  exact ⟨(s0, s1, s2), e0, e1, e2⟩
set_option maxRecDepth 100000 in
theorem open_tx {H : Type} {enc : TypeId × Value → H} {w : World} {base : Nat} {spare : Nat → Bool} {held : Bool} {r : Reach} {b0 : Nat} {v : Value} {d : DataW H} {p : List MemPlace}
    (hv : Value.okWide Tryd.prog w r b0 44 v) (h : DataW.Trod enc Tryd.prog w base spare held 44 v d p) : ∃ c e n : Int, v = .agg #[.int .i64 c, .int .i64 e, .int .i64 n] := by
  obtain ⟨f0, f1, f2, hs, t0, t1, t2, o0, o1, o2⟩ := tx_three
  obtain ⟨cs, rfl, hsz⟩ := okWide_struct hs hv
  obtain ⟨c0, c1, c2, rfl⟩ := arrX3 (hsz.trans (by kernel_rfl))
  obtain ⟨fuel, hf⟩ := h
  simp [Value.cells] at hf
  obtain ⟨t, rfl, rfl, rfl⟩ := open_txc hf
  exact ⟨t.1, t.2.1, t.2.2, rfl⟩
end Go.Proofs.YtjddkofpfmjojaaDoor
