/-
  spec.Depth, impl.Depth: the same.
-/
import Derived.Test.YtjplocdjbfpcgacOkT
namespace Go.Proofs.Ytjplocdjbfpcgac
open Go.RowKit
theorem below_drewN (w : World) (q : Nat) : Below w.heap.size w (w.drewN q) := ⟨rfl, rfl, rfl, Nat.le_refl _, fun _ _ => rfl⟩
def dpV (ns : List NB) : Int := match okT ns with | none => -1 | some t => t.dpt
set_option maxHeartbeats 2000000 in
theorem implDepth_any (S : Nat → Prop) (an : Option Addr) (nn cn : Nat) (ns : List NB) (w : World) (hN : Nr w S (.slice an nn cn) ns) :
    Calls Try.prog 17 #[.agg #[.slice an nn cn]] w fun e w' => e = .returned (.int .i64 (dpV ns)) ∧ Below w.heap.size w w' := by
  have HN := hid hN
  have h1 := hN.len.2.1
  have h2 := hN.len.2.2
  clear hN
  have HB0 := hid (below_new (o := .cells #[.slice an nn cn] 26) (w := w) (Below.refl _ _))
  go_enter Try.func17, Try.ntmps17
  go_wp2_with fail
  refine (rootOf_any S an nn cn ns _ (HN.out.below HB0.out)).mono ?_
  generalize w.alloc (.cells #[.slice an nn cn] 26) = U at *
  rintro e w1 ⟨hpost, hb1⟩
  have HB1 : Hid (Below w.heap.size w w1) := HB0.out.trans (hb1.mono HB0.out.size)
  clear hb1
  cases hr : okT ns with
  | none =>
    rw [hr] at hpost
    have he : e = .returned (.pointer none) := hpost
    subst he
    have HR : Hid (dpV ns = -1) := by show _ = _; rw [dpV, hr]
    clear hpost hr
    go_wp2
    go_ret
    exact ⟨by rw [HR.out]; rfl, HB1.out⟩
  | some t =>
    rw [hr] at hpost
    obtain ⟨b, he, hL⟩ := hpost
    subst he
    have HR : Hid (dpV ns = t.dpt) := by show _ = _; rw [dpV, hr]
    have HF := hid (okT_facts hr)
    have HL := hid hL
    clear hL hr
    go_wp2_with fail
    refine (depth_any _ b t w1 HL.out (by have := HF.out.few; omega) (by have := HF.out.lv; omega)).mono ?_
    rintro e w2 ⟨rfl, q, rfl⟩
    go_wp2
    go_ret
    exact ⟨by rw [HR.out]; rfl, HB1.out.trans ((below_drewN _ q).mono HB1.out.size)⟩
set_option maxHeartbeats 2000000 in
theorem specDepth_any (ns : List NB) (hlen : ns.length ≤ 1048576) (hsm : smallN ns) (S : Nat → Prop) (an : Option Addr) (nn cn : Nat) (w : World) (hN : Nr w S (.slice an nn cn) ns) :
    Calls Try.prog 15 #[.agg #[.slice an nn cn]] w fun e w' => e = .returned (.int .i64 (dpV ns)) ∧ Below w.heap.size w w' := by
  have HNN := hid hN.len.1
  have h1 := hN.len.2.1
  have h2 := hN.len.2.2
  have HB0 := hid (below_new (o := .cells #[.slice an nn cn] 26) (w := w) (Below.refl _ _))
  have K0 := hid (Bk.new w 26 [.slice an nn cn])
  have H0 := hid (hN.below HB0.out)
  have HLS := hid (And.intro hlen hsm)
  clear hN hlen hsm
  go_enter Try.func15, Try.ntmps15
  go_wp2_with fail
  refine (specTreeOk_any ns HLS.out.1 HLS.out.2 S an nn cn _ H0.out).mono ?_
  generalize w.alloc (.cells #[.slice an nn cn] 26) = U at *
  rintro e w1 ⟨rfl, hb⟩
  have HB1 := hid (HB0.out.trans (hb.mono HB0.out.size))
  have K1 := hid (K0.out.below hb)
  have H1 := hid (H0.out.below hb)
  clear hb HB0 K0 H0
  rw [spOk_eq]
  cases hr : okT ns with
  | none =>
    have HR : Hid (dpV ns = -1) := by show _ = _; rw [dpV, hr]
    clear hr
    go_wp2
    go_ret
    exact ⟨by rw [HR.out]; rfl, HB1.out⟩
  | some t =>
    have HR : Hid (dpV ns = t.dpt) := by show _ = _; rw [dpV, hr]
    have HF := hid (okT_facts hr)
    clear hr
    have c1 := K1.out.cell (j := 0) rfl
    by_cases hz : nn = 0
    · have HT : Hid (t = .mk [] []) := HF.out.nil (by rw [← HNN.out]; exact hz)
      clear HNN H1 K1
      subst hz
      go_wp2
      go_ret
      exact ⟨by rw [HR.out, HT.out]; rfl, HB1.out⟩
    · have HD : Hid (t.dp = t.dpt) := HF.out.dp (by rw [← HNN.out]; exact hz)
      have e1 : ((nn : Int) == 0) = false := by simp; omega
      clear hz
      go_wp2_with fail
      refine (specRoot_any ns HLS.out.1 HLS.out.2 S an nn cn _ H1.out).mono ?_
      rintro e w2 ⟨hpost, hb⟩
      rw [HF.out.root] at hpost
      obtain ⟨lf, ap, np, cp, ak, nk, ck, he, hsub⟩ := hpost
      subst he
      have HB2 := hid (Below.then' HB1.out hb (Nat.le_refl _))
      have HB3 := hid (HB2.out.alloc HB2.out.size (.cells #[.bool lf, .slice ap np cp, .slice ak nk ck] 64))
      have HS2 := hid (hsub.kept (below_new (o := .cells #[.bool lf, .slice ap np cp, .slice ak nk ck] 64) (w := w2) (Below.refl _ _)))
      clear hb hsub K1 H1 HB1 HB2 c1
      go_wp2_with fail
      refine (specDeep_any t _ lf ap ak np cp nk ck _ HS2.out (by have := HF.out.ht; omega)).mono ?_
      rintro e w3 ⟨rfl, hb⟩
      have HB4 := hid (Below.then' HB3.out hb (Nat.le_refl _))
      clear hb
      go_wp2
      go_ret
      exact ⟨by rw [HR.out, ← HD.out]; rfl, HB4.out⟩
end Go.Proofs.Ytjplocdjbfpcgac
