/-
  spec.TreeAll, impl.TreeAll: the same pairs, in new memory.
-/
import Derived.Test.YtbaggkfgnjenoaaOkT
namespace Go.Proofs.Ytbaggkfgnjenoaa
open Go.RowKit
def alV (ns : List NB) : List PB := match okT ns with | none => [] | some t => t.all
theorem alV_len (ns : List NB) : (alV ns).length ≤ 200 := by
  unfold alV
  cases h : okT ns with
  | none => exact Nat.zero_le _
  | some t => exact (okT_facts h).all
def OwPost (l : List PB) (w : World) (e : Ending) (w' : World) : Prop := ∃ v, e = .returned v ∧ Ow w' w.heap.size v l ∧ Below w.heap.size w w'
set_option maxHeartbeats 2000000 in
theorem implTreeAll_any (S : Nat → Prop) (an : Option Addr) (nn cn : Nat) (ns : List NB) (w : World) (hN : Nr w S (.slice an nn cn) ns) :
    Calls Try.prog 74 #[.agg #[.slice an nn cn]] w fun e w' => OwPost (alV ns) w e w' := by
  have HN := hid hN
  have h1 := hN.len.2.1
  have h2 := hN.len.2.2
  clear hN
  have HB0 := hid (below_new (o := .cells #[.slice an nn cn] 63) (w := w) (Below.refl _ _))
  go_enter Try.func74, Try.ntmps74
  go_wp2_with fail
  refine (rootOf_any S an nn cn ns _ (HN.out.below HB0.out)).mono ?_
  generalize w.alloc (.cells #[.slice an nn cn] 63) = U at *
  rintro e w1 ⟨hpost, hb1⟩
  have HB1 : Hid (Below w.heap.size w w1) := HB0.out.trans (hb1.mono HB0.out.size)
  clear hb1
  cases hr : okT ns with
  | none =>
    rw [hr] at hpost
    have he : e = .returned (.pointer none) := hpost
    subst he
    have HR : Hid (alV ns = []) := by show _ = _; rw [alV, hr]
    clear hpost hr
    go_wp2
    go_ret
    exact ⟨_, rfl, by rw [HR.out]; exact ow_nil _ _, HB1.out⟩
  | some t =>
    rw [hr] at hpost
    obtain ⟨b, he, hL⟩ := hpost
    subst he
    have HR : Hid (alV ns = t.all) := by show _ = _; rw [alV, hr]
    have HF := hid (okT_facts hr)
    have HL := hid hL
    clear hL hr
    go_wp2_with fail
    refine (all_any t _ b w1 w1.heap.size (.slice none 0 0) [] HL.out (fun x hx => hx.2) (Nat.le_refl _) (ow_nil _ _) (by have := HF.out.all; simp; omega)).mono ?_
    rintro e w2 ⟨v, rfl, hO, hb⟩
    have HB2 : Hid (Below w.heap.size w w2) := HB1.out.trans (hb.mono HB1.out.size)
    have HO : Hid (Ow w2 w.heap.size v t.all) := own_mono hO HB1.out.size
    clear hO hb
    go_wp2
    go_ret
    exact ⟨_, rfl, by rw [HR.out]; exact HO.out, HB2.out⟩
set_option maxHeartbeats 2000000 in
theorem specTreeAll_any (ns : List NB) (hlen : ns.length ≤ 1048576) (hsm : smallN ns) (S : Nat → Prop) (an : Option Addr) (nn cn : Nat) (w : World) (hN : Nr w S (.slice an nn cn) ns) :
    Calls Try.prog 75 #[.agg #[.slice an nn cn]] w fun e w' => OwPost (alV ns) w e w' := by
  have h1 := hN.len.2.1
  have h2 := hN.len.2.2
  have HB0 := hid (below_new (o := .cells #[.slice an nn cn] 63) (w := w) (Below.refl _ _))
  have K0 := hid (Bk.new w 63 [.slice an nn cn])
  have H0 := hid (hN.below HB0.out)
  have HLS := hid (And.intro hlen hsm)
  clear hN hlen hsm
  go_enter Try.func75, Try.ntmps75
  go_wp2_with fail
  refine (specTreeOk_any ns HLS.out.1 HLS.out.2 S an nn cn _ H0.out).mono ?_
  generalize w.alloc (.cells #[.slice an nn cn] 63) = U at *
  rintro e w1 ⟨rfl, hb⟩
  have HB1 := hid (HB0.out.trans (hb.mono HB0.out.size))
  have K1 := hid (K0.out.below hb)
  have H1 := hid (H0.out.below hb)
  clear hb HB0 K0 H0
  rw [spOk_eq]
  cases hr : okT ns with
  | none =>
    have HR : Hid (alV ns = []) := by show _ = _; rw [alV, hr]
    clear hr
    go_wp2
    go_ret
    exact ⟨_, rfl, by rw [HR.out]; exact ow_nil _ _, HB1.out⟩
  | some t =>
    have HR : Hid (alV ns = t.all) := by show _ = _; rw [alV, hr]
    have HF := hid (okT_facts hr)
    clear hr
    have c1 := K1.out.cell (j := 0) rfl
    go_wp2_with fail
    refine (specRoot_any ns HLS.out.1 HLS.out.2 S an nn cn _ H1.out).mono ?_
    rintro e w2 ⟨hpost, hb⟩
    rw [HF.out.root] at hpost
    obtain ⟨lf, ap, np, cp, ak, nk, ck, he, hsub⟩ := hpost
    subst he
    have HB2 := hid (Below.then' HB1.out hb (Nat.le_refl _))
    have HB3 := hid (HB2.out.alloc HB2.out.size (.cells #[.bool lf, .slice ap np cp, .slice ak nk ck] 146))
    have HS2 := hid (hsub.kept (below_new (o := .cells #[.bool lf, .slice ap np cp, .slice ak nk ck] 146) (w := w2) (Below.refl _ _)))
    clear hb hsub K1 H1 HB1 HB2 c1
    go_wp2_with fail
    refine (specPairs_any t _ lf ap ak np cp nk ck _ HS2.out (by have := HF.out.all; omega)).mono ?_
    generalize w2.alloc (.cells #[.bool lf, .slice ap np cp, .slice ak nk ck] 146) = w3 at *
    rintro e w4 ⟨v, rfl, hO, hb⟩
    have HB4 := hid (Below.then' HB3.out hb (Nat.le_refl _))
    have HO : Hid (Ow w4 w.heap.size v t.all) := own_mono hO HB3.out.size
    clear hb hO
    go_wp2
    go_ret
    exact ⟨_, rfl, by rw [HR.out]; exact HO.out, HB4.out⟩
end Go.Proofs.Ytbaggkfgnjenoaa

