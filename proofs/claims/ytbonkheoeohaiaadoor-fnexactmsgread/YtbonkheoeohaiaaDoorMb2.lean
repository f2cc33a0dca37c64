/-
  What both PutTexts answer, for every slice of bytes and every string that is not too long.
-/
import Derived.Test.YtbonkheoeohaiaaDoorMb1
import Derived.Maps.AppendAt
import Derived.Deep.RegionLaw
import Derived.Deep.DeepCutAuto
import Derived.LaidLaws
import Derived.Stop.LaidErr
import Derived.Deep.Strs
import Derived.Deep.Slices
import Derived.ChangeSlices
import Derived.WideShapes
import Derived.ChangeSame
import Derived.ProofKit
import Derived.OpenShut
import Derived.Deep.SlicePairs
namespace Go.Proofs.YtbonkheoeohaiaaDoor
open Go.RowKit

theorem specPutVar_none (a : Option Addr) (n c : Nat) (zs : List Int) (m : Int) (w : World) (h : Rd w a n c zs) (hlen : n ≤ 1099511627776) (hr : pv zs m = none) :
    Calls Tryd.prog 39 #[.slice a n c, .int .i64 m] w fun e w' => e = .returned (.tuple #[.slice none 0 0, .bool false]) ∧ Below w.heap.size w w' := by
  refine (specPutVar_any a n c zs m w h hlen).mono ?_
  rintro e w' ⟨hb, ⟨_, he⟩ | ⟨v, zs', hr', _⟩⟩
  · exact ⟨he, hb⟩
  · rw [hr] at hr'; cases hr'
theorem specPutVar_some (a : Option Addr) (n c : Nat) (zs out : List Int) (m : Int) (w : World) (h : Rd w a n c zs) (hlen : n ≤ 1099511627776) (hr : pv zs m = some out) :
    Calls Tryd.prog 39 #[.slice a n c, .int .i64 m] w fun e w' => ∃ v, e = .returned (.tuple #[v, .bool true]) ∧ Ob w' w.heap.size v out ∧ Below w.heap.size w w' := by
  refine (specPutVar_any a n c zs m w h hlen).mono ?_
  rintro e w' ⟨hb, ⟨hr', _⟩ | ⟨v, zs', hr', he, ho⟩⟩
  · rw [hr] at hr'; cases hr'
  · rw [hr] at hr'; cases hr'
    exact ⟨v, he, ho, hb⟩
theorem Ob.drew {w : World} {B : Nat} {v : Value} {zs : List Int} (h : Ob w B v zs) : Ob w.drew B v zs := h
/-- What PutText answers. -/
def pt (zs : List Int) (s : ByteArray) : Option (List Int) := if (zs ++ enc s.size ++ bytesOf s).length ≤ 4096 then some (zs ++ enc s.size ++ bytesOf s) else none

set_option maxHeartbeats 800000 in
theorem specPutText_any (a : Option Addr) (n c : Nat) (zs : List Int) (s : ByteArray) (w : World) (h : Rd w a n c zs) (hlen : n ≤ 1099511627776) (hs : s.size ≤ 1048576) :
    Calls Tryd.prog 40 #[.slice a n c, .string s] w fun e w' => Put w (pt zs s) e w' := by
  have HR := hid h
  clear h
  by_cases h1 : (zs ++ enc s.size).length ≤ 4096
  · have HP := hid (pv_ok zs s.size (by omega) (by omega) h1)
    have hol : (zs ++ enc s.size).length ≤ 4096 := h1
    have HT : Hid (pt zs s = if (zs ++ enc s.size).length + s.size ≤ 4096 then some (zs ++ enc s.size ++ bytesOf s) else none) := by
      show pt zs s = _
      unfold pt
      rw [show (zs ++ enc s.size ++ bytesOf s).length = (zs ++ enc s.size).length + s.size from by rw [List.length_append, bytesOf_len]]
    clear h1
    generalize zs ++ enc s.size = out at HP hol HT
    generalize hL : out.length = L at HT hol
    have HL := hid hL
    clear hL
    have hcv := fun w => run_bytes_of_string (P := Tryd.prog) w 9 22 5 s Tryd.underlying9 Tryd.underlying22 Tryd.underlying5
    by_cases hbig : (4096 : Int) - (L : Int) < (s.size : Int)
    · have HN : Hid (pt zs s = none) := by show pt zs s = none; rw [HT.out]; exact if_neg (by omega)
      go_enter Tryd.func40, Tryd.ntmps40
      go_wp2_with fail
      refine (specPutVar_some a n c zs out _ w HR.out hlen HP.out).mono ?_
      rintro e w1 ⟨v, rfl, ho, hb1⟩
      obtain ⟨a1, c1, hv⟩ := ho.shape
      have HO := hid ho
      rw [HL.out] at hv
      clear ho
      rw [hv]
      go_wp2
      go_ret2
      exact ⟨hb1, .inl ⟨HN.out, rfl⟩⟩
    · have HN : Hid (pt zs s = some (out ++ bytesOf s)) := by show pt zs s = some (out ++ bytesOf s); rw [HT.out]; exact if_pos (by omega)
      go_enter Tryd.func40, Tryd.ntmps40
      go_wp2_with fail
      refine (specPutVar_some a n c zs out _ w HR.out hlen HP.out).mono ?_
      rintro e w1 ⟨v, rfl, ho, hb1⟩
      obtain ⟨a1, c1, hv⟩ := ho.shape
      rw [HL.out] at hv
      have HO : Hid (Ob w1 w.heap.size (.slice a1 L c1) out) := by show Ob w1 w.heap.size (.slice a1 L c1) out; rw [← hv]; exact ho
      clear ho
      rw [hv]
      clear hv
      go_wp2_with (at_builtin; refine wpList_append_rd rfl _ _ rfl w.heap.size _ out rfl ?own _ _ _ (bytesOf s) rfl ?src ?b ?base ?_)
      case own => exact HO.out.alloc _
      case src => exact rd_conv _ s _ _ (by omega) (grownCap_ge _ _ _ _) (by have := grownCap_le_maxLen w1 s.size 0 5 (by unfold maxLen; omega); unfold maxLen at this; omega)
      case b => rw [HL.out, bytesOf_len]; omega
      case base => have := hb1.size; simp; omega
      intro v2 w2 hown2 hg2
      have hb2 : Below w.heap.size w w2 := Ob.below (HO.out.alloc _).drew ((hb1.alloc hb1.size _).drew) (by have := hb1.size; simp; omega) hg2
      have HO2 := hid hown2
      obtain ⟨a2, c2, hv2⟩ := hown2.shape
      clear hown2 hg2
      go_wp2
      go_ret2
      exact ⟨hb2, .inr ⟨v2, out ++ bytesOf s, HN.out, rfl, HO2.out⟩⟩
  · have HP := hid (pv_long zs s.size (by omega))
    have HN : Hid (pt zs s = none) := by
      show pt zs s = none
      unfold pt
      rw [show (zs ++ enc s.size ++ bytesOf s).length = (zs ++ enc s.size).length + s.size from by rw [List.length_append, bytesOf_len]]
      exact if_neg (by omega)
    go_enter Tryd.func40, Tryd.ntmps40
    go_wp2_with (go_at_call 39; refine (specPutVar_none a n c zs _ w HR.out hlen HP.out).mono ?_; rintro e w1 ⟨rfl, hb1⟩)
    go_ret2
    exact ⟨hb1, .inl ⟨HN.out, rfl⟩⟩

set_option maxHeartbeats 400000 in
theorem text_any (g most : Nat) (st : Option (List Int)) (s : ByteArray) (w : World) (h : Wr w g most st) (he : Err w 1) (he2 : Err w 0) (hg : 1 < g) (hs : s.size ≤ 1048576) :
    Calls Tryd.prog 92 #[.pointer (some ⟨g, 0, none⟩), .string s] w fun e w' => e = .returned (.tuple #[]) ∧ Below g w w' ∧ Wr w' g most (addSt most (numSt most st s.size) (bytesOf s)) := by
  have hlt := h.lt
  have HW := hid h
  have HE := hid he
  have HE2 := hid he2
  clear h he he2
  have hcv := fun w => run_bytes_of_string (P := Tryd.prog) w 9 22 5 s Tryd.underlying9 Tryd.underlying22 Tryd.underlying5
  go_enter Tryd.func92, Tryd.ntmps92
  go_wp2_with (go_at_call 27; refine (number_any g most st s.size w HW.out HE.out HE2.out hg).mono ?_; rintro e w1 ⟨rfl, hb1, hw1⟩)
  have HW1 := hid hw1
  have HB1 := hid hb1
  clear hw1 hb1
  have hlt1 : g ≤ w1.heap.size := Nat.le_of_lt HW1.out.lt
  refine (add_any g most (numSt most st s.size) _ s.size _ (bytesOf s) _ ?gw ?ge ?gs (by omega)).mono ?_
  case gw => exact HW1.out.alloc _
  case ge => exact (HE.out.below HB1.out hg).below ((Below.refl g w1).alloc hlt1 _).drew hg
  case gs => exact rd_conv _ s _ _ (by omega) (grownCap_ge _ _ _ _) (by have := grownCap_le_maxLen w1 s.size 0 5 (by unfold maxLen; omega); unfold maxLen at this; omega)
  rintro e w2 ⟨rfl, hb2, hw2⟩
  have HB2 := hid hb2
  have HW2 := hid hw2
  clear hb2 hw2
  go_wp2
  go_end0
  exact ⟨rfl, HB1.out.trans (((Below.refl g w1).alloc hlt1 _).drew.trans HB2.out), HW2.out⟩
theorem addSt_pt (zs : List Int) (s : ByteArray) (hs : s.size ≤ 1048576) : addSt 4096 (numSt 4096 (addSt 4096 (some []) zs) s.size) (bytesOf s) = pt zs s := by
  unfold numSt
  rw [if_pos ⟨by omega, by omega⟩, addSt_addSt, addSt_addSt, addSt_start]
  unfold pt
  rw [List.append_assoc]

end Go.Proofs.YtbonkheoeohaiaaDoor
/-
  Records' texts as plain data.
-/
namespace Go.Proofs.YtbonkheoeohaiaaDoor
open Go.RowKit
set_option linter.unusedVariables false
def tpart (s : ByteArray) : List Int := enc s.size ++ bytesOf s
def tparts : List ByteArray → List Int
  | [] => []
  | s :: l => tpart s ++ tparts l
theorem tparts_append (l r : List ByteArray) : tparts (l ++ r) = tparts l ++ tparts r := by
  induction l with
  | nil => rfl
  | cons s l ih => simp only [List.cons_append, tparts, ih, List.append_assoc]
theorem tpart_len (s : ByteArray) : (tpart s).length ≤ s.size + 7 := by
  have := enc_len (s.size : Int)
  rw [tpart, List.length_append, bytesOf_len]; omega
theorem tpart_byte (s : ByteArray) (h : s.size ≤ 1048576) : ∀ z ∈ tpart s, 0 ≤ z ∧ z ≤ 255 := byte_append (enc_byte _ (by omega) (by omega)) (bytesOf_byte s)
theorem tparts_byte (l : List ByteArray) (h : ∀ s ∈ l, s.size ≤ 1048576) : ∀ z ∈ tparts l, 0 ≤ z ∧ z ≤ 255 := by
  induction l with
  | nil => intro z hz; cases hz
  | cons s l ih => exact byte_append (tpart_byte s (h s (by simp))) (ih (fun x hx => h x (by simp [hx])))
theorem tparts_len (l : List ByteArray) (h : ∀ s ∈ l, s.size ≤ 20) : (tparts l).length ≤ l.length * 27 := by
  induction l with
  | nil => simp [tparts]
  | cons s l ih =>
    have h1 := tpart_len s
    have h2 := h s (by simp)
    have h3 := ih (fun x hx => h x (by simp [hx]))
    simp only [tparts, List.length_append, List.length_cons]
    omega
def rcMark (k : Int) : Int := if k = 1 then 119 else if k = 2 then 103 else if k = 3 then 115 else 120
def rcPs (k : Int) (ky vl lo hi : ByteArray) : List ByteArray := if k = 1 then [ky, vl] else if k = 2 then [ky] else [lo, hi]
def rcBy (k : Int) (ky vl lo hi : ByteArray) : List Int := rcMark k :: tparts (rcPs k ky vl lo hi)
def rcTx (k : Int) (ky vl lo hi : ByteArray) : ByteArray := if rcOk k ky vl lo hi then strOf (rcBy k ky vl lo hi) else ⟨#[]⟩
/-- What a right record is, in numbers. -/
theorem rcOk_facts {k : Int} {ky vl lo hi : ByteArray} (h : rcOk k ky vl lo hi = true) : (k = 1 ∧ ky.size ≤ 8 ∧ vl.size ≤ 20 ∧ lo.toList = [] ∧ hi.toList = []) ∨ (k = 2 ∧ ky.size ≤ 8 ∧ vl.toList = [] ∧ lo.toList = [] ∧ hi.toList = []) ∨ ((k = 3 ∨ k = 4) ∧ ky.toList = [] ∧ vl.toList = [] ∧ lo.size ≤ 9 ∧ hi.size ≤ 9) := by
  by_cases k1 : k = 1
  · subst k1
    rw [rcOk_1] at h
    simp [uOk, uvOk, isE] at h
    exact .inl ⟨rfl, h.1.2, h.2.1, h.2.2.1, h.2.2.2⟩
  · by_cases k2 : k = 2
    · subst k2
      rw [rcOk_2] at h
      simp [uOk, isE] at h
      exact .inr (.inl ⟨rfl, h.1.2, h.2.1, h.2.2.1, h.2.2.2⟩)
    · by_cases k3 : k = 3 ∨ k = 4
      · have e : rcOk k ky vl lo hi = (isE ky && (isE vl && rchOk lo hi)) := by rcases k3 with rfl | rfl <;> rfl
        rw [e] at h
        simp [isE, rchOk] at h
        exact .inr (.inr ⟨k3, h.1, h.2.1, h.2.2.2.1, h.2.2.2.2⟩)
      · rw [rcOk_no k1 k2 (fun e => k3 (.inl e)) (fun e => k3 (.inr e))] at h
        cases h
theorem rcPs_small {k : Int} {ky vl lo hi : ByteArray} (h : rcOk k ky vl lo hi = true) : ∀ s ∈ rcPs k ky vl lo hi, s.size ≤ 20 := by
  rcases rcOk_facts h with ⟨rfl, h1, h2, _⟩ | ⟨rfl, h1, _⟩ | ⟨rfl | rfl, _, _, h1, h2⟩
  · intro s hs
    simp [rcPs] at hs
    rcases hs with rfl | rfl <;> omega
  · intro s hs
    simp [rcPs] at hs
    subst hs; omega
  · intro s hs
    simp [rcPs] at hs
    rcases hs with rfl | rfl <;> omega
  · intro s hs
    simp [rcPs] at hs
    rcases hs with rfl | rfl <;> omega
theorem Ob.rd' {w : World} {B : Nat} {v : Value} {zs : List Int} (h : Ob w B v zs) (hl : ∀ z ∈ zs, 0 ≤ z ∧ z ≤ 255) (hb : zs.length ≤ 4096) : ∃ a c, v = .slice a zs.length c ∧ Rd w a zs.length c zs := by
  obtain ⟨a, c, h1, h2, _⟩ := h.rd (byte_at hl) (by omega)
  exact ⟨a, c, h1, h2⟩
theorem specPT_fit (a : Option Addr) (n c : Nat) (zs : List Int) (s : ByteArray) (w : World) (h : Rd w a n c zs) (hz : zs.length ≤ 1000) (hs : s.size ≤ 20) :
    Calls Tryd.prog 40 #[.slice a n c, .string s] w fun e w' => ∃ a' n' c', e = .returned (.tuple #[.slice a' n' c', .bool true]) ∧ Rd w' a' n' c' (zs ++ tpart s) ∧ Below w.heap.size w w' := by
  have hn := h.len
  have hb := at_byte h.2.2.2.2.1
  refine (specPutText_any a n c zs s w h (by omega) (by omega)).mono ?_
  rintro e w' ⟨hbel, hp⟩
  have hl := tpart_len s
  have hpt : pt zs s = some (zs ++ tpart s) := by
    unfold pt
    rw [if_pos (by rw [List.append_assoc, List.length_append]; unfold tpart at hl; omega), List.append_assoc]; rfl
  rw [hpt] at hp
  rcases hp with ⟨h0, _⟩ | ⟨v, zs', h0, rfl, ho⟩
  · cases h0
  · cases h0
    obtain ⟨a', c', rfl, hr⟩ := ho.rd' (byte_append hb (tpart_byte s (by omega))) (by rw [List.length_append]; omega)
    exact ⟨a', _, c', rfl, hr, hbel⟩
end Go.Proofs.YtbonkheoeohaiaaDoor
/-
  What both Fills answer, for every slice of bytes and every size.
-/
namespace Go.Proofs.YtbonkheoeohaiaaDoor
open Go.RowKit

/-- What Fill answers. -/
def fl (zs : List Int) (m : Int) : Option (List Int) := if (zs.length : Int) ≤ m ∧ m ≤ 4096 then some (zs ++ List.replicate (m - zs.length).toNat 0) else none
theorem fl_bad (zs : List Int) (m : Int) (h : m < zs.length ∨ 4096 < m) : fl zs m = none := by unfold fl; exact if_neg (by omega)
theorem fl_ok (zs : List Int) (k : Nat) (h : zs.length + k ≤ 4096) : fl zs ((zs.length : Int) + (k : Int)) = some (zs ++ List.replicate k 0) := by
  unfold fl
  rw [if_pos (by omega)]
  congr 3
  omega

/-- What fill does to the writer's state. -/
def fillSt (most : Nat) : Option (List Int) → Int → Option (List Int)
  | none, _ => none
  | some zs, m => if (zs.length : Int) ≤ m ∧ m ≤ most then some (zs ++ List.replicate (m - zs.length).toNat 0) else none

theorem rd_zero (w : World) (k : Nat) (hk : k ≤ 1048576) : Rd (w.alloc (.cells (madeCells #[.int .u8 0] k) 5)) (some ⟨w.heap.size, 0, none⟩) k k (List.replicate k 0) := by
  refine ⟨by simp, Nat.le_refl _, by omega, by omega, fun i => ?_, fun _ => ⟨w.heap.size, 0, rfl, by simp, fun i hi => ?_⟩⟩
  · by_cases hi : i < k
    · simp [hi]
    · rw [List.getElem?_eq_none (by simp; omega)]; simp
  · rw [World.cell?_alloc_at (hn := rfl)]
    simp [madeCells, hi, Nat.mod_one]

theorem fillSt_fl (zs : List Int) (m : Int) : fillSt 4096 (addSt 4096 (some []) zs) m = fl zs m := by
  rw [addSt_start]
  by_cases h : zs.length ≤ 4096
  · rw [if_pos h]; rfl
  · rw [if_neg h, fl_bad zs m (by omega)]; rfl

end Go.Proofs.YtbonkheoeohaiaaDoor
/-
  Rows that are appended to, of any element; of strings and of numbers.
-/
namespace Go.Proofs.YtbonkheoeohaiaaDoor
open Go.RowKit
theorem info_of {P : Program} {e : TypeId} {z : Value} {size bytes : Nat} (h : (P.info? e).map (fun i => (i.zero, i.size, i.bytes)) = some (some z, size, bytes)) : ∃ i, P.info? e = some i ∧ i.zero = some z ∧ i.size = size ∧ i.bytes = bytes := by
  obtain ⟨i, hi, hz⟩ := Option.map_eq_some_iff.1 h
  simp only [Prod.mk.injEq] at hz
  exact ⟨i, hi, hz⟩
/-- append(dst, src...), and where the new row lies. -/
theorem run_append_row_at {P : Program} {w : World} (base : Nat) (t ty e : TypeId) (i : TypeInfo) (z : Value) (size bytes : Nat) (ht : P.underlying t = some (.slice e)) (hi : P.info? e = some i) (hz : i.zero = some z)
    (hsize : i.size = size) (hby : i.bytes = bytes) (hzs : z.cells.size = size) (hsz : 0 < size) (v : Value) (n : Nat) (xs : List Value) (hown : w.ownsRow base e size v n xs)
    (S : Nat → Prop) (src : Value) (m : Nat) (news : List Value) (hsrc : Rw w S src m news) (hl : news.length = m * size) (h1 : ∀ u ∈ news, u.oneCell' = true)
    (h63 : n + m ≤ maxLen) (hbytes : (n + m) * bytes ≤ 140737488355328) (hbase : base ≤ w.heap.size) :
    ∃ v' w', (Builtin.append_ #[t, t] ty #[v, src]).run P w = .ok v' w' ∧ w'.ownsRow base e size v' (n + m) (xs ++ news) ∧ w.grownBy w' v.ownBlock ∧ (v'.ownBlock = v.ownBlock ∨ v'.ownBlock = some w.heap.size) := by
  obtain ⟨a, c, rfl, h2, h3, h4, hn, h5⟩ := hsrc
  by_cases hm : 0 < m
  · obtain ⟨b, off, rfl, hb, hS, hc⟩ := h5 hm
    obtain ⟨v', w', hr, ho, hg, _, ha⟩ := run_append_own_at w base t ty e i z size bytes ht hi hz hsize hby hzs hsz v n xs hown ⟨b, off, none⟩ m c news hl (fun j u hu => by rw [Addr.add_lit]; exact hc j u hu) h1 h63 hbytes hbase
    exact ⟨v', w', hr, ho, hg, ha⟩
  · obtain rfl : m = 0 := by omega
    obtain rfl := h4 rfl
    cases a with
    | some ad =>
      obtain ⟨v', w', hr, ho, hg, _, ha⟩ := run_append_own_at w base t ty e i z size bytes ht hi hz hsize hby hzs hsz v n xs hown ad 0 c [] hl (fun j u hu => by simp at hu) h1 h63 hbytes hbase
      exact ⟨v', w', hr, ho, hg, ha⟩
    | none =>
      obtain rfl := hn rfl
      have hrun := run_append_owned_none (P := P) (w := w) base t ty e i size ht hi v n xs hown
      exact ⟨v, w, hrun, by simpa using hown, ⟨rfl, rfl, rfl, Nat.le_refl _, fun _ _ _ => rfl⟩, .inl rfl⟩
theorem wpList_append_row_at {P : Program} {w : World} {ops : Array Oper} {rest : List Oper} {o : Oper} {a : Act} {Q : Exit → Act → World → Prop} (hgd : o.guard = none) (s x : Operand) (t : TypeId)
    (ho : o.op = .call { callee := .builtin .append, args := #[s, x], argTypes := #[t, t] })
    (base : Nat) (e : TypeId) (i : TypeInfo) (z : Value) (size bytes : Nat) (ht : P.underlying t = some (.slice e)) (hi : P.info? e = some i) (hz : i.zero = some z)
    (hsize : i.size = size) (hby : i.bytes = bytes) (hzs : z.cells.size = size) (hsz : 0 < size) (v : Value) (n : Nat) (xs : List Value) (hs : a.eval s = v) (hown : w.ownsRow base e size v n xs)
    (S : Nat → Prop) (src : Value) (m : Nat) (news : List Value) (hx : a.eval x = src) (hsrc : Rw w S src m news) (hl : news.length = m * size) (h1 : ∀ u ∈ news, u.oneCell' = true)
    (h63 : n + m ≤ maxLen) (hbytes : (n + m) * bytes ≤ 140737488355328) (hbase : base ≤ w.heap.size)
    (h : ∀ v' w', w'.ownsRow base e size v' (n + m) (xs ++ news) → w.grownBy w' v.ownBlock → (v'.ownBlock = v.ownBlock ∨ v'.ownBlock = some w.heap.size) → wpList P ops Q rest (a.put o.dst v') w') : wpList P ops Q (o :: rest) a w := by
  refine wpList_plain hgd fun K hK => ?_
  obtain ⟨v', w', hr, h2, h3, h4⟩ := run_append_row_at (P := P) (w := w) base t o.type e i z size bytes ht hi hz hsize hby hzs hsz v n xs hown S src m news hsrc hl h1 h63 hbytes hbase
  unfold Oper.wp execOp
  simp only [ho, resolve, invoke, builtin, Sem.run_bind, Sem.run_pure, Result.andThen_ok, List.map_toArray, List.map_cons, List.map_nil, hs, hx, hr]
  exact hK _ _ (h v' w' h2 h3 h4)
theorem infoStr' : (Tryd.prog.info? 9).map (fun i => (i.zero, i.size, i.bytes)) = some (some (.string ⟨#[]⟩), 1, 16) := by kernel_rfl
theorem wpList_append_st1 {w : World} {ops : Array Oper} {rest : List Oper} {o : Oper} {a : Act} {Q : Exit → Act → World → Prop} (hgd : o.guard = none) (s x : Operand)
    (ho : o.op = .call { callee := .builtin .append, args := #[s, x], argTypes := #[77, 77] }) (v : Value) (n : Nat) (xs : List Value) (hs : a.eval s = v) (hown : w.ownsRow 0 9 1 v n xs)
    (g : Nat) (z : ByteArray) (hx : a.eval x = .slice (some ⟨g, 0, none⟩) 1 1) (hB : Bk w g 9 [.string z]) (hb : n ≤ 1048576)
    (h : ∀ a' n' c' w', w'.ownsRow 0 9 1 (.slice a' n' c') (n + 1) (xs ++ [.string z]) → w.grownBy w' v.ownBlock → ((Value.slice a' n' c').ownBlock = v.ownBlock ∨ (Value.slice a' n' c').ownBlock = some w.heap.size) → wpList Tryd.prog ops Q rest (a.put o.dst (.slice a' n' c')) w') : wpList Tryd.prog ops Q (o :: rest) a w := by
  obtain ⟨i, hi, hz, hsz, hby⟩ := info_of infoStr'
  refine wpList_append_row_at hgd s x 77 ho 0 9 i _ 1 16 Tryd.underlying77 hi hz hsz hby rfl (by decide) v n xs hs hown (fun _ => True) _ 1 [.string z] hx (hB.rw (Nat.le_refl _) (by omega) (fun h => by omega) _ trivial) rfl
    (by intro u hu; simp at hu; subst hu; rfl) (by unfold maxLen; omega) (by omega) (Nat.zero_le _) ?_
  intro v' w' k1 k2 k3
  obtain ⟨a', c', rfl⟩ := own_shape k1
  exact h a' _ c' w' k1 k2 k3
theorem infoInt' : (Tryd.prog.info? 3).map (fun i => (i.zero, i.size, i.bytes)) = some (some (.int .i64 0), 1, 8) := by kernel_rfl
theorem wpList_append_in1 {w : World} {ops : Array Oper} {rest : List Oper} {o : Oper} {a : Act} {Q : Exit → Act → World → Prop} (hgd : o.guard = none) (s x : Operand)
    (ho : o.op = .call { callee := .builtin .append, args := #[s, x], argTypes := #[75, 75] }) (v : Value) (n : Nat) (xs : List Value) (hs : a.eval s = v) (hown : w.ownsRow 0 3 1 v n xs)
    (g : Nat) (z : Int) (hx : a.eval x = .slice (some ⟨g, 0, none⟩) 1 1) (hB : Bk w g 3 [.int .i64 z]) (hb : n ≤ 1048576)
    (h : ∀ a' n' c' w', w'.ownsRow 0 3 1 (.slice a' n' c') (n + 1) (xs ++ [.int .i64 z]) → w.grownBy w' v.ownBlock → ((Value.slice a' n' c').ownBlock = v.ownBlock ∨ (Value.slice a' n' c').ownBlock = some w.heap.size) → wpList Tryd.prog ops Q rest (a.put o.dst (.slice a' n' c')) w') : wpList Tryd.prog ops Q (o :: rest) a w := by
  obtain ⟨i, hi, hz, hsz, hby⟩ := info_of infoInt'
  refine wpList_append_row_at hgd s x 75 ho 0 3 i _ 1 8 Tryd.underlying75 hi hz hsz hby rfl (by decide) v n xs hs hown (fun _ => True) _ 1 [.int .i64 z] hx (hB.rw (Nat.le_refl _) (by omega) (fun h => by omega) _ trivial) rfl
    (by intro u hu; simp at hu; subst hu; rfl) (by unfold maxLen; omega) (by omega) (Nat.zero_le _) ?_
  intro v' w' k1 k2 k3
  obtain ⟨a', c', rfl⟩ := own_shape k1
  exact h a' _ c' w' k1 k2 k3
end Go.Proofs.YtbonkheoeohaiaaDoor
/-
  Metas as plain data; MetaOk, l04Five and MetaBytes of the specification.
-/
namespace Go.Proofs.YtbonkheoeohaiaaDoor
open Go.RowKit
def mtOk (g r : Int) : Bool := decide (1 ≤ g ∧ g ≤ 1099511627775) && (decide (r = 0) || decide (2 ≤ r ∧ r < 400))
def wts : List Int := [4294967296, 16777216, 65536, 256, 1]
def five (n : Int) : List Int := wts.map fun W => n / W % 256
def fiveT (n : Int) (j : Nat) : List Int := (wts.take j).map fun W => n / W % 256
def mtHead (g r : Int) : List Int := [77] ++ five g ++ [r / 256, r % 256]
def mtFull (g r : Int) : List Int := mtHead g r ++ List.replicate 499 0 ++ five g
def mtBytes (g r : Int) : Option (List Int) := if mtOk g r = true then some (mtFull g r) else none
theorem five_len (n : Int) : (five n).length = 5 := rfl
theorem mtFull_len (g r : Int) : (mtFull g r).length = 512 := by simp only [mtFull, mtHead, List.length_append, List.length_replicate, five_len, List.length_cons, List.length_nil]
theorem five_byte (n : Int) : ∀ z ∈ five n, 0 ≤ z ∧ z ≤ 255 := by
  intro z hz
  simp only [five, List.mem_map] at hz
  obtain ⟨W, _, rfl⟩ := hz
  omega
theorem fiveT_byte (n : Int) (j : Nat) : ∀ z ∈ fiveT n j, 0 ≤ z ∧ z ≤ 255 := by
  intro z hz
  simp only [fiveT, List.mem_map] at hz
  obtain ⟨W, _, rfl⟩ := hz
  omega
theorem mtHead_byte {g r : Int} (h0 : 0 ≤ r) (h1 : r < 400) : ∀ z ∈ mtHead g r, 0 ≤ z ∧ z ≤ 255 :=
  byte_append (byte_append (by intro z hz; simp at hz; omega) (five_byte g)) (by intro z hz; simp at hz; omega)
theorem mtFull_byte {g r : Int} (h0 : 0 ≤ r) (h1 : r < 400) : ∀ z ∈ mtFull g r, 0 ≤ z ∧ z ≤ 255 :=
  byte_append (byte_append (mtHead_byte h0 h1) (fun z hz => by have := List.eq_of_mem_replicate hz; omega)) (five_byte g)
def wAt (j : Nat) : Int := wts[j]?.getD 1
theorem wAt_rng {j : Nat} (h : j < 5) : 1 ≤ wAt j ∧ wAt j ≤ 4294967296 := by
  match j, h with
  | 0, _ => decide
  | 1, _ => decide
  | 2, _ => decide
  | 3, _ => decide
  | 4, _ => decide
theorem fiveT_succ (n : Int) {j : Nat} (h : j < 5) : fiveT n (j + 1) = fiveT n j ++ [n / wAt j % 256] := by
  match j, h with
  | 0, _ => rfl
  | 1, _ => rfl
  | 2, _ => rfl
  | 3, _ => rfl
  | 4, _ => rfl
theorem fiveT_five (n : Int) : fiveT n 5 = five n := rfl
theorem fiveT_len (n : Int) {j : Nat} (h : j ≤ 5) : (fiveT n j).length = j := by
  simp [fiveT, wts]; omega
theorem mtOk_facts {g r : Int} (h : mtOk g r = true) : 1 ≤ g ∧ g ≤ 1099511627775 ∧ 0 ≤ r ∧ r < 400 := by
  simp [mtOk] at h
  omega
theorem infoU8' : (Tryd.prog.info? 5).map (fun i => (i.zero, i.size, i.bytes)) = some (some (.int .u8 0), 1, 1) := by kernel_rfl
theorem Ob.lower {w : World} {B B' : Nat} {v : Value} {zs : List Int} (h : Ob w B v zs) (hB : B' ≤ B) : Ob w B' v zs := by
  refine ⟨h.1, h.2.imp id ?_⟩
  rintro ⟨g, cap, cur, h1, h2, h3⟩
  exact ⟨g, cap, cur, h1, Nat.le_trans hB h2, h3⟩
theorem Ob.keep {w w' : World} {B : Nat} {v : Value} {zs : List Int} (h : Ob w B v zs) (hb : Below w.heap.size w w') : Ob w' B v zs := own_kept h (only_of_below hb (fun _ => False)) (fun _ _ h => h)
/-- append of bytes to a row of one's own, and where the new row lies. -/
theorem wpList_append_by {w : World} {ops : Array Oper} {rest : List Oper} {o : Oper} {a : Act} {Q : Exit → Act → World → Prop} (hgd : o.guard = none) (s x : Operand)
    (ho : o.op = .call { callee := .builtin .append, args := #[s, x], argTypes := #[22, 22] }) (B : Nat) (v : Value) (zs : List Int) (hs : a.eval s = v) (hown : Ob w B v zs)
    (ao : Option Addr) (m c : Nat) (ys : List Int) (hx : a.eval x = .slice ao m c) (hsrc : Rd w ao m c ys) (hb : zs.length ≤ 1048576) (hm : m ≤ 1048576) (hB : B ≤ w.heap.size) (hc : ao = none → c = 0)
    (h : ∀ a' n' c' w', Ob w' B (.slice a' n' c') (zs ++ ys) → w.grownBy w' v.ownBlock → ((Value.slice a' n' c').ownBlock = v.ownBlock ∨ (Value.slice a' n' c').ownBlock = some w.heap.size) → wpList Tryd.prog ops Q rest (a.put o.dst (.slice a' n' c')) w') : wpList Tryd.prog ops Q (o :: rest) a w := by
  obtain ⟨i, hi, hz, hsz, hby⟩ := info_of infoU8'
  obtain ⟨r1, r2, r3, r4, r5, r6⟩ := hsrc
  refine wpList_append_row_at hgd s x 22 ho B 5 i _ 1 1 Tryd.underlying22 hi hz hsz hby rfl (by decide) v zs.length (zs.map (Value.int .u8)) hs hown (fun _ => True) _ m (ys.map (Value.int .u8)) hx ?_ (by simp [r1]) (by intro u hu; simp at hu; obtain ⟨z, _, rfl⟩ := hu; rfl) (by unfold maxLen; omega) (by omega) hB ?_
  · refine ⟨ao, c, rfl, r2, r3, fun h0 => by rw [List.eq_nil_of_length_eq_zero (by omega : ys.length = 0)]; rfl, hc, fun hp => ?_⟩
    obtain ⟨b, off, e, hb, hcell⟩ := r6 hp
    refine ⟨b, off, e, hb, trivial, fun j u hu => ?_⟩
    rw [List.getElem?_map] at hu
    obtain ⟨z, hz, rfl⟩ := Option.map_eq_some_iff.1 hu
    have hj : j < ys.length := (List.getElem?_eq_some_iff.1 hz).1
    have := hcell j (by omega)
    rwa [hz] at this
  · intro v' w' k1 k2 k3
    obtain ⟨a', c', rfl⟩ := own_shape k1
    refine h a' _ c' w' ?_ k2 k3
    unfold Ob
    rw [List.length_append, List.map_append, ← r1]
    exact k1
end Go.Proofs.YtbonkheoeohaiaaDoor
/-
  l04Same: two slices of bytes hold the same.
-/
namespace Go.Proofs.YtbonkheoeohaiaaDoor
open Go.RowKit
def zAt (zs : List Int) (i : Nat) : Int := zs[i]?.getD 0
theorem strOf_eq {xs ys : List Int} (hx : ∀ z ∈ xs, 0 ≤ z ∧ z ≤ 255) (hy : ∀ z ∈ ys, 0 ≤ z ∧ z ≤ 255) (h : strOf xs = strOf ys) : xs = ys := by
  have key : ∀ (o : List Int), (∀ z ∈ o, 0 ≤ z ∧ z ≤ 255) → bytesOf (strOf o) = o := by
    intro o ho
    simp only [bytesOf, strOf, List.map_map]
    conv => rhs; rw [← List.map_id o]
    refine List.map_congr_left fun z hz => ?_
    have := ho z hz
    simp
    omega
  rw [← key xs hx, ← key ys hy, h]
set_option maxHeartbeats 800000 in
theorem same_any (a b : Option Addr) (n m c d : Nat) (xs ys : List Int) (w : World) (hx : Rd w a n c xs) (hy : Rd w b m d ys) :
    Calls Tryd.prog 53 #[.slice a n c, .slice b m d] w fun e w' => e = .returned (.bool (decide (xs = ys))) ∧ w = w' := by
  have h1 := run_str hx
  have h2 := run_str hy
  have b1 := at_byte hx.2.2.2.2.1
  have b2 := at_byte hy.2.2.2.2.1
  by_cases e : xs = ys
  · subst e
    generalize strOf xs = s at *
    rw [decide_eq_true rfl]
    clear b1 b2 hx hy
    go_enter Tryd.func53, Tryd.ntmps53
    go_wp2
    go_ret
    exact ⟨rfl, rfl⟩
  · have hne : ((strOf xs).toList == (strOf ys).toList) = false := by
      rw [beq_eq_false_iff_ne]
      exact fun h => e (strOf_eq b1 b2 (str_ext h))
    rw [decide_eq_false e]
    generalize strOf xs = s at *
    generalize strOf ys = t at *
    clear b1 b2 hx hy e
    go_enter Tryd.func53, Tryd.ntmps53
    go_wp2
    go_ret
    exact ⟨rfl, rfl⟩
end Go.Proofs.YtbonkheoeohaiaaDoor
/-
  MetaBytes and MetaRead of the specification; what is read out of a meta's bytes, as plain data.
-/
namespace Go.Proofs.YtbonkheoeohaiaaDoor
open Go.RowKit
theorem ob_lit (w : World) (z : Int) : Ob (w.alloc (.cells #[.int .u8 z] 5)) w.heap.size (.slice (some ⟨w.heap.size, 0, none⟩) 1 1) [z] :=
  ⟨rfl, .inr ⟨w.heap.size, 1, #[.int .u8 z], rfl, Nat.le_refl _, heap_alloc_new w _, Nat.le_refl _, by decide, rfl, rfl⟩⟩
theorem rd_two (w : World) (y z : Int) (h0 : 0 ≤ y ∧ y ≤ 255) (h1 : 0 ≤ z ∧ z ≤ 255) : Rd (w.alloc (.cells #[.int .u8 y, .int .u8 z] 5)) (some ⟨w.heap.size, 0, none⟩) 2 2 [y, z] := by
  refine ⟨rfl, Nat.le_refl _, by omega, by omega, fun i => ?_, fun _ => ⟨w.heap.size, 0, rfl, by simp, fun i hi => ?_⟩⟩
  · match i with
    | 0 => exact h0
    | 1 => exact h1
    | n + 2 => simp
  · have k := Bk.new w 5 [.int .u8 y, .int .u8 z]
    match i, hi with
    | 0, _ => exact k.cell (j := 0) rfl
    | 1, _ => exact k.cell (j := 1) rfl
theorem PutM.got {w w' : World} {r : Option (List Int)} {e : Ending} {zs : List Int} (h : Put w r e w') (hr : r = some zs) : ∃ v, e = .returned (.tuple #[v, .bool true]) ∧ Ob w' w.heap.size v zs ∧ Below w.heap.size w w' := by
  obtain ⟨hb, ⟨h1, _⟩ | ⟨v, zs', h1, h2, h3⟩⟩ := h
  · rw [hr] at h1; cases h1
  · rw [hr] at h1; cases h1
    exact ⟨v, h2, h3, hb⟩
theorem btw {u v w : World} (h : Below u.heap.size u v) (k : Below v.heap.size v w) : Below u.heap.size u w := h.trans (k.mono h.size)
/-- What append leaves below, and what it keeps. -/
theorem Ob.grown {u w w' : World} {v : Value} {zs : List Int} (h : Ob w u.heap.size v zs) (hb : Below u.heap.size u w) (hg : w.grownBy w' v.ownBlock) : Below u.heap.size u w' := by
  have hon : Only (fun y => v.ownBlock = some y) w w' := only_of_grown hg (fun k e => e)
  exact hb.trans (hon.below hb.size (fun b hb' e => by have := (World.ownsRow.lt h b e).1; omega))
theorem Ob.bk {u : Nat} {w w' : World} {v : Value} {zs : List Int} {b : Nat} {T : TypeId} {xs : List Value} (h : Ob w u v zs) (hk : Bk w b T xs) (hg : w.grownBy w' v.ownBlock) (hb : b < u) : Bk w' b T xs :=
  hk.to (only_of_grown hg (R := fun y => v.ownBlock = some y) (fun k e => e)) (fun e => by have := (World.ownsRow.lt h b e).1; omega)
end Go.Proofs.YtbonkheoeohaiaaDoor
/-
  MetaRead of the specification; metas are read as they were written, and torn ones aren't read as new ones.
-/
namespace Go.Proofs.YtbonkheoeohaiaaDoor
open Go.RowKit
def acc (zs : List Int) : Nat → Int
  | 0 => 0
  | j + 1 => acc zs j * 256 + zAt zs (j + 1)
def mcd (zs : List Int) : Int × Int := (acc zs 5, zAt zs 6 * 256 + zAt zs 7)
def mrd (zs : List Int) : Option (Int × Int) := if zs.length = 512 ∧ mtBytes (mcd zs).1 (mcd zs).2 = some zs then some (mcd zs) else none
theorem acc_rng {zs : List Int} (hb : ∀ i : Nat, 0 ≤ zs[i]?.getD 0 ∧ zs[i]?.getD 0 ≤ 255) : ∀ j, j ≤ 5 → 0 ≤ acc zs j ∧ acc zs j < 1099511627776 ∧ (j ≤ 4 → acc zs j < 4294967296) ∧ (j ≤ 3 → acc zs j < 16777216) ∧ (j ≤ 2 → acc zs j < 65536) ∧ (j ≤ 1 → acc zs j < 256) ∧ (j ≤ 0 → acc zs j < 1)
  | 0, _ => by simp [acc]
  | j + 1, h => by
    have h1 := acc_rng hb j (by omega)
    have h2 := hb (j + 1)
    have e : acc zs (j + 1) = acc zs j * 256 + zs[j + 1]?.getD 0 := rfl
    rw [e]
    omega
def MrPost (o : Option (Int × Int)) (w : World) (e : Ending) (w' : World) : Prop := Below w.heap.size w w' ∧ ((o = none ∧ e = .returned (.tuple #[.agg #[.int .i64 0, .int .i64 0], .bool false])) ∨ ∃ g r, o = some (g, r) ∧ e = .returned (.tuple #[.agg #[.int .i64 g, .int .i64 r], .bool true]))
end Go.Proofs.YtbonkheoeohaiaaDoor
/-
  What a row's list of errors gives: the variable's cell holds an error.
-/
namespace Go.Proofs.YtbonkheoeohaiaaDoor
open Go.RowKit Go.ChangeShapes

theorem laid_err {P : Program} {n nm : String} {d : DataW Unit} {r : List (String × DataW Unit)} {W : World} {g : Nat} {ti : TypeId} {ms : Array (String × TypeId)}
    (h : laidMet P ((n, .iface nm d) :: r) W) (hg : P.globalNamed n = some g) (ht : (P.globals[g]?).map (·.type) = some ti) (hi : P.underlying ti = some (.interface ms)) : Err W g := by
  obtain ⟨ps, ⟨g0, t0, cs0, f0, p0, q0, hg0, ht0, hv0, hd0, _, e0⟩, _, hrows⟩ := h
  obtain rfl := Option.some.inj (hg.symm.trans hg0)
  obtain rfl := Option.some.inj (ht.symm.trans ht0)
  obtain ⟨f1, u, v, hcs, hn, h1⟩ := iface_of_trod hi hd0
  have hc : cs0 = #[.iface u v] := by
    cases cs0
    simp_all
  subst hc
  exact ⟨u, v, by simpa using World.var?_cell hg0 hv0 0⟩
theorem Err.lt {w : World} {g : Nat} (h : Err w g) : g < w.heap.size := by
  obtain ⟨t, x, hc⟩ := h
  exact block_lt hc
end Go.Proofs.YtbonkheoeohaiaaDoor
/-
  MetaOk, highFirst, fromHighFirst, MetaBytes and MetaRead of the program.
-/
namespace Go.Proofs.YtbonkheoeohaiaaDoor
open Go.RowKit
/-- The number without its k lowest bytes; its k lowest bytes, the highest first. -/
def shr8 (n : Int) : Nat → Int
  | 0 => n
  | k + 1 => shr8 n k / 256
def low8 (n : Int) : Nat → List Int
  | 0 => []
  | k + 1 => (shr8 n k % 256) :: low8 n k
theorem low8_len (n : Int) : ∀ k, (low8 n k).length = k
  | 0 => rfl
  | k + 1 => by rw [low8, List.length_cons, low8_len n k]
theorem low8_byte (n : Int) : ∀ k, ∀ z ∈ low8 n k, 0 ≤ z ∧ z ≤ 255
  | 0 => by intro z hz; cases hz
  | k + 1 => by
    intro z hz
    rw [low8] at hz
    rcases List.mem_cons.1 hz with rfl | h
    · omega
    · exact low8_byte n k z h
theorem low8_five (n : Int) : low8 n 5 = five n := by
  simp only [low8, shr8, five, wts, List.map_cons, List.map_nil]
  refine List.cons_eq_cons.2 ⟨by omega, List.cons_eq_cons.2 ⟨by omega, List.cons_eq_cons.2 ⟨by omega, List.cons_eq_cons.2 ⟨by omega, List.cons_eq_cons.2 ⟨by omega, rfl⟩⟩⟩⟩⟩
theorem low8_two {n : Int} (h0 : 0 ≤ n) (h1 : n < 65536) : low8 n 2 = [n / 256, n % 256] := by
  simp only [low8, shr8]
  refine List.cons_eq_cons.2 ⟨by omega, rfl⟩
theorem shr8_rng {n : Int} (h0 : 0 ≤ n) : ∀ k, 0 ≤ shr8 n k ∧ shr8 n k ≤ n
  | 0 => ⟨h0, Int.le_refl _⟩
  | k + 1 => by
    have := shr8_rng h0 k
    rw [shr8]
    omega
/-- The row that highFirst fills from behind, k of its bytes being there. -/
def lowP (n : Int) (s k : Nat) : List Int := List.replicate (s - k) 0 ++ low8 n k
theorem lowP_len (n : Int) {s k : Nat} (h : k ≤ s) : (lowP n s k).length = s := by
  rw [lowP, List.length_append, List.length_replicate, low8_len]
  omega
theorem lowP_set (n : Int) {s k : Nat} (h : k < s) : (byteVals (lowP n s k)).setIfInBounds (s - 1 - k) (.int .u8 (shr8 n k % 256)) = byteVals (lowP n s (k + 1)) := by
  obtain ⟨m, rfl⟩ : ∃ m, s = k + 1 + m := ⟨s - (k + 1), by omega⟩
  have e1 : k + 1 + m - k = m + 1 := by omega
  have e2 : k + 1 + m - (k + 1) = m := by omega
  have e3 : k + 1 + m - 1 - k = m := by omega
  rw [lowP, lowP, e1, e2, e3, byteVals, byteVals, List.setIfInBounds_toArray]
  congr 1
  rw [List.map_append, List.map_append, List.map_replicate, List.map_replicate, List.replicate_succ', List.append_assoc, List.set_append_right _ _ (by simp)]
  simp [low8]
theorem lowP_zero (n : Int) (s : Nat) : byteVals (lowP n s 0) = madeCells #[.int .u8 0] s := by
  apply Array.ext
  · simp [byteVals, lowP, low8, madeCells]
  · intro i h1 h2; simp [byteVals, lowP, low8, madeCells, Nat.mod_one]
theorem lowP_all (n : Int) (s : Nat) : lowP n s s = low8 n s := by simp [lowP]
theorem lowP_at (n : Int) {s k : Nat} (h : k ≤ s) {i : Nat} (hi : i < s) : ∃ z, (byteVals (lowP n s k))[i]? = some (.int .u8 z) := by
  have hl : i < (lowP n s k).length := by rw [lowP_len n h]; exact hi
  exact ⟨(lowP n s k)[i], by simp [byteVals, hl]⟩
/-- The number that bytes tell, the highest first. -/
def hiF (zs : List Int) : Int := zs.foldl (fun n z => n * 256 + z) 0
theorem hiF_take (zs : List Int) {k : Nat} (h : k < zs.length) : hiF (zs.take (k + 1)) = hiF (zs.take k) * 256 + zs[k]?.getD 0 := by
  rw [List.take_succ_eq_append_getElem h, hiF, List.foldl_append]
  simp [hiF, h]
theorem hiF_rng {zs : List Int} (hb : ∀ z ∈ zs, 0 ≤ z ∧ z ≤ 255) : ∀ k, k ≤ zs.length → 0 ≤ hiF (zs.take k) ∧ (k ≤ 5 → hiF (zs.take k) < 1099511627776) ∧ (k ≤ 4 → hiF (zs.take k) < 4294967296) ∧ (k ≤ 3 → hiF (zs.take k) < 16777216) ∧ (k ≤ 2 → hiF (zs.take k) < 65536) ∧ (k ≤ 1 → hiF (zs.take k) < 256) ∧ (k ≤ 0 → hiF (zs.take k) < 1)
  | 0, _ => by simp [hiF]
  | k + 1, h => by
    have h1 := hiF_rng hb k (by omega)
    have h2 := byte_at hb k
    rw [hiF_take zs (by omega)]
    omega
theorem rd_nilM (w : World) : Rd w none 0 0 [] := ⟨rfl, Nat.le_refl _, by omega, by omega, by simp, fun h => by omega⟩
theorem addSt_ok {most : Nat} {zs ys : List Int} (h : zs.length + ys.length ≤ most) : addSt most (some zs) ys = some (zs ++ ys) := if_pos h
theorem fillSt_ok {most : Nat} {zs : List Int} {k : Nat} (h : zs.length + k ≤ most) : fillSt most (some zs) ((zs.length + k : Nat) : Int) = some (zs ++ List.replicate k 0) := by
  show (if (zs.length : Int) ≤ ((zs.length + k : Nat) : Int) ∧ ((zs.length + k : Nat) : Int) ≤ most then _ else _) = _
  rw [if_pos (by omega)]
  congr 3
  omega
theorem Put.lift {w u w' : World} {r : Option (List Int)} {e : Ending} (hb : Below w.heap.size w u) (h : Put u r e w') : Put w r e w' := by
  refine ⟨btw hb h.1, h.2.imp id ?_⟩
  rintro ⟨v, zs, h1, h2, h3⟩
  exact ⟨v, zs, h1, h2, h3.lower hb.size⟩
theorem Rd.cut {w : World} {b off n c : Nat} {zs : List Int} (h : Rd w (some ⟨b, off, none⟩) n c zs) (lo m : Nat) (hm : lo + m ≤ n) : Rd w (some ⟨b, off + lo, none⟩) m (c - lo) ((zs.drop lo).take m) := by
  obtain ⟨h1, h2, h3, h4, h5, h6⟩ := h
  have e : ∀ i, i < m → ((zs.drop lo).take m)[i]?.getD 0 = zs[lo + i]?.getD 0 := by
    intro i hi
    rw [List.getElem?_take_of_lt hi, List.getElem?_drop]
  refine ⟨by simp; omega, by omega, by omega, by omega, fun i => ?_, fun hp => ?_⟩
  · by_cases hi : i < m
    · rw [e i hi]; exact h5 _
    · rw [List.getElem?_eq_none (by simp; omega)]; simp
  · obtain ⟨b', off', ha, hb, hc⟩ := h6 (by omega)
    cases ha
    refine ⟨b, off + lo, rfl, hb, fun i hi => ?_⟩
    rw [e i hi, Nat.add_assoc]
    exact hc (lo + i) (by omega)
theorem hiF_acc (zs : List Int) (h : zs.length = 512) : ∀ k, k ≤ 5 → hiF ((zs.drop 1).take k) = acc zs k
  | 0, _ => by simp [hiF, acc]
  | k + 1, hk => by
    rw [hiF_take _ (by simp; omega), hiF_acc zs h k (by omega), acc, List.getElem?_drop, Nat.add_comm 1 k]
    rfl
theorem hiF_root (zs : List Int) (h : zs.length = 512) : hiF ((zs.drop 6).take 2) = zAt zs 6 * 256 + zAt zs 7 := by
  rw [hiF_take _ (by simp; omega), hiF_take _ (by simp; omega), List.getElem?_drop, List.getElem?_drop]
  simp [hiF, zAt]
set_option maxHeartbeats 800000 in
theorem bytesEqual_any (a b : Option Addr) (n m c d : Nat) (xs ys : List Int) (w : World) (hx : Rd w a n c xs) (hy : Rd w b m d ys) :
    Calls Tryd.prog 38 #[.slice a n c, .slice b m d] w fun e w' => e = .returned (.bool (decide (xs = ys))) ∧ w = w' := by
  have h1 := run_str hx
  have h2 := run_str hy
  have b1 := at_byte hx.2.2.2.2.1
  have b2 := at_byte hy.2.2.2.2.1
  by_cases e : xs = ys
  · subst e
    generalize strOf xs = s at *
    rw [decide_eq_true rfl]
    clear b1 b2 hx hy
    go_enter Tryd.func38, Tryd.ntmps38
    go_wp2
    go_ret
    exact ⟨rfl, rfl⟩
  · have hne : ((strOf xs).toList == (strOf ys).toList) = false := by
      rw [beq_eq_false_iff_ne]
      exact fun h => e (strOf_eq b1 b2 (str_ext h))
    rw [decide_eq_false e]
    generalize strOf xs = s at *
    generalize strOf ys = t at *
    clear b1 b2 hx hy e
    go_enter Tryd.func38, Tryd.ntmps38
    go_wp2
    go_ret
    exact ⟨rfl, rfl⟩
end Go.Proofs.YtbonkheoeohaiaaDoor
/-
  The program's writer where there is room: what it leaves alone besides what lies below it.
-/
namespace Go.Proofs.YtbonkheoeohaiaaDoor
open Go.RowKit
/-- The block b is none of the writer's. -/
def Off (w : World) (g b : Nat) : Prop := b < w.heap.size ∧ b ≠ g ∧ ∀ v, w.cell? ⟨g, 0, none⟩ = some v → v.ownBlock ≠ some b
/-- What isn't the writer's is as it was, and isn't the writer's still. -/
def Kp (g : Nat) (w w' : World) : Prop := ∀ b, Off w g b → w'.heap[b]? = w.heap[b]? ∧ Off w' g b
theorem Kp.refl (g : Nat) (w : World) : Kp g w w := fun _ h => ⟨rfl, h⟩
theorem Kp.trans {g : Nat} {w w1 w2 : World} (h : Kp g w w1) (k : Kp g w1 w2) : Kp g w w2 := fun b hb => ⟨(k b (h b hb).2).1.trans (h b hb).1, (k b (h b hb).2).2⟩
theorem Kp.alloc {g : Nat} {w : World} (hg : g < w.heap.size) (o : Obj) : Kp g w (w.alloc o) := by
  intro b hb
  refine ⟨Below.heap_alloc _ _ _ hb.1, Nat.lt_of_lt_of_le hb.1 (by simp), hb.2.1, fun v hv => hb.2.2 v ?_⟩
  rwa [World.cell?_alloc_past (hn := hg)] at hv
theorem Kp.drewN (g : Nat) (w : World) (q : Nat) : Kp g w (w.drewN q) := fun _ h => ⟨rfl, h⟩
theorem Kp.drew (g : Nat) (w : World) : Kp g w w.drew := fun _ h => ⟨rfl, h⟩
theorem Kp.bk {g : Nat} {w w' : World} (h : Kp g w w') {b : Nat} {T : TypeId} {xs : List Value} (ho : Off w g b) (hk : Bk w b T xs) : Bk w' b T xs := (h b ho).1.trans hk
theorem only_under {G : Nat} {w w' : World} (h : Below G w w') : Only (fun b => G ≤ b) w w' := ⟨h.os, h.tape, h.output, h.size, fun b _ hn => h.block b (by omega)⟩
theorem Wr.off {w : World} {g most : Nat} {st : Option (List Int)} (h : Wr w g most st) (o : Obj) : Off (w.alloc o) g w.heap.size := by
  have hlt := h.lt
  obtain ⟨v, ev, zs, c0, c1, c2, f0, f2, ho, hr⟩ := h
  refine ⟨by simp, by omega, fun u hu e => ?_⟩
  rw [World.cell?_alloc_past (hn := hlt), c0] at hu
  cases hu
  have := (World.ownsRow.lt ho _ e).2
  omega
set_option maxHeartbeats 800000 in
theorem addK_any (g most : Nat) (zs : List Int) (a : Option Addr) (n c : Nat) (ys : List Int) (w : World) (h : Wr w g most (some zs)) (hs : Rd w a n c ys) (hn : n ≤ 1048576) (hcz : a = none → c = 0) (hfit : zs.length + ys.length ≤ most) (hmo : most ≤ 1048576) :
    Calls Tryd.prog 63 #[.pointer (some ⟨g, 0, none⟩), .slice a n c] w fun e w' => e = .returned (.tuple #[]) ∧ Below g w w' ∧ Wr w' g most (some (zs ++ ys)) ∧ Kp g w w' := by
  have HS := hid hs
  have HN : Hid (n = ys.length) := hs.1
  have hyb := at_byte hs.2.2.2.2.1
  have HY := hid hyb
  have hlt := h.lt
  have HCZ := hid hcz
  obtain ⟨v, ev, zs', c0, c1, c2, f0, f2, ho, hl, hm, hb, hst⟩ := h
  rcases hst with ⟨rfl, e⟩ | ⟨_, e⟩
  · cases e
    obtain ⟨va, vc, hv⟩ := ho.shape
    have HO := hid ho
    have HB := hid hb
    have HV := hid hv
    rw [hv] at c0
    have HC0 := hid c0
    generalize hL : zs.length = L at hv hl c0
    have HL := hid hL
    clear ho hb hs hyb hL hv hcz
    have hbig : ¬ (most : Int) - (L : Int) < (n : Int) := by have := HL.out; have := HN.out; omega
    have HO' : Hid (Ob w (g + 1) (.slice va L vc) zs) := by show Ob w (g + 1) (.slice va L vc) zs; rw [← HL.out, ← HV.out]; exact HO.out
    have HFT : Hid (zs.length + ys.length ≤ most) := hfit
    clear hfit
    go_enter Tryd.func63, Tryd.ntmps63
    go_wp2
    go_quiet (fail)
    go_wp2_with (at_builtin; refine wpList_append_by rfl _ _ rfl (g + 1) _ zs rfl (HO'.out.drewN nq) a n c ys rfl (HS.out.drewN nq) ?b ?m ?base HCZ.out ?_)
    case b => rw [HL.out]; omega
    case m => omega
    case base => simp; omega
    intro a2 L2 k2 w2 hown2 hg2 hwh
    have hb2 : Below (g + 1) w w2 := Ob.below (HO'.out.drewN nq) (Below.drewN' (Below.refl _ _) nq) (by simp; omega) hg2
    have HO2 := hid hown2
    have HG2 := hid hg2
    have HWH := hid hwh
    have d0 := (hb2.cell (p := ⟨g, 0, none⟩) (by simp)).trans c0
    have d1 := (hb2.cell (p := ⟨g, 1, none⟩) (by simp)).trans c1
    have d2 := (hb2.cell (p := ⟨g, 2, none⟩) (by simp)).trans c2
    have e0 := (hb2.frozen (p := ⟨g, 0, none⟩) (by simp)).trans f0
    have e2 := (hb2.frozen (p := ⟨g, 2, none⟩) (by simp)).trans f2
    clear hown2 hg2 hwh
    go_wp2
    go_end0
    refine ⟨rfl, Below.setCell (p := ⟨g, 0, none⟩) (hb2.mono (Nat.le_succ g)) (Nat.le_refl g) _, ?_, ?_⟩
    · refine ⟨.slice a2 L2 k2, .nilIface, zs ++ ys, World.cell?_setCell_same _ _ _ d0, ?_, ?_, by simpa using e0, by simpa using e2, ?_, ?_, hm, byte_append HB.out HY.out, .inl ⟨rfl, rfl⟩⟩
      · rw [World.cell?_setCell_other (h := by simp)]; exact d1
      · rw [World.cell?_setCell_other (h := by simp)]; exact d2
      · exact ownsRow_setCell_below HO2.out (by simp) _
      · rw [List.length_append]; exact HFT.out
    · intro b hoff
      have hrow : (Value.slice va L vc).ownBlock ≠ some b := hoff.2.2 _ c0
      have hbk : w2.heap[b]? = w.heap[b]? := HG2.out.block b hoff.1 (fun e => hrow e.symm)
      refine ⟨?_, ?_, hoff.2.1, ?_⟩
      · rw [← hbk]
        exact Below.heap_setCell _ _ _ _ (fun e => hoff.2.1 e)
      · have := HG2.out.size
        have h1 := hoff.1
        show b < (w2.setCell _ _).heap.size
        simp [World.setCell]
        exact Nat.lt_of_lt_of_le h1 this
      · intro u hu e
        rw [World.cell?_setCell_same _ _ _ d0] at hu
        cases hu
        rcases HWH.out with h1 | h1
        · exact hrow (h1 ▸ e)
        · rw [h1] at e
          have h2 := hoff.1
          have h3 : w.heap.size = b := Option.some.inj e
          omega
  · cases e
set_option maxHeartbeats 400000 in
theorem addByteK_any (g most : Nat) (zs : List Int) (z : Int) (w : World) (h : Wr w g most (some zs)) (h0 : 0 ≤ z) (h1 : z ≤ 255) (hfit : zs.length + 1 ≤ most) (hmo : most ≤ 1048576) :
    Calls Tryd.prog 67 #[.pointer (some ⟨g, 0, none⟩), .int .u8 z] w fun e w' => e = .returned (.tuple #[]) ∧ Below g w w' ∧ Wr w' g most (some (zs ++ [z])) ∧ Kp g w w' := by
  have hlt := h.lt
  have HW := hid h
  clear h
  have hb1 : Below g w (w.alloc (.cells #[.int .u8 z] 5)) := (Below.refl _ _).alloc (Nat.le_of_lt hlt) _
  have HB := hid hb1
  have HK := hid (Kp.alloc hlt (.cells #[.int .u8 z] 5))
  clear hb1
  go_enter Tryd.func67, Tryd.ntmps67
  go_wp2_with (go_at_call 63; refine (addK_any g most zs _ 1 1 [z] _ (HW.out.alloc _) (rd_one w z h0 h1) (by omega) (fun e => by cases e) (by simpa using hfit) hmo).mono ?_; rintro e w1 ⟨rfl, hb, hw, hk⟩)
  go_end0
  exact ⟨rfl, HB.out.trans hb, hw, HK.out.trans hk⟩
set_option maxHeartbeats 800000 in
theorem numberK_any (g most : Nat) (zs : List Int) (m : Int) (w : World) (h : Wr w g most (some zs)) (h0 : 0 ≤ m) (h1 : m ≤ 1099511627775) (hfit : zs.length + (enc m).length ≤ most) (hmo : most ≤ 1048576) :
    Calls Tryd.prog 27 #[.pointer (some ⟨g, 0, none⟩), .int .i64 m] w fun e w' => e = .returned (.tuple #[]) ∧ Below g w w' ∧ Wr w' g most (some (zs ++ enc m)) ∧ Kp g w w' := by
  have HW := hid h
  have HFT := hid hfit
  clear h hfit
  go_enter Tryd.func27, Tryd.ntmps27
  go_wp2_with (go_at_call 65; refine (isNumber_any m _ true (by simp [h0, h1])).mono ?_; rintro e w' ⟨rfl, rfl⟩)
  go_loopw [1] (fun i wr => ∃ (f : Nat) (q : Int) (ds : List Int), i = .int .i64 q ∧ 0 ≤ q ∧ q ≤ 1099511627775 ∧ q < bnd f ∧ ds ++ encF f q = enc m ∧ Wr wr g most (some (zs ++ ds)) ∧ Below g w wr ∧ Kp g w wr) (fun i _ => (intOf i).toNat)
  case atStart => exact ⟨6, m, [], rfl, h0, h1, by simp [bnd]; omega, rfl, by rw [List.append_nil]; exact HW.out, Below.refl _ _, Kp.refl _ _⟩
  case round =>
    obtain ⟨f, q, ds, rfl, hq0, hq1, hqb, hds, hwr, hbel, hkp⟩ := hrel
    have HD := hid hds
    have HQ := hid hqb
    have HR := hid hwr
    have HKP := hid hkp
    have HLN : Hid (zs.length + (ds.length + 1) ≤ most) := by
      have h2 := HFT.out
      rw [← hds, List.length_append] at h2
      have h3 := encF_len f q
      show _ ≤ _
      omega
    clear hds hqb hwr hkp
    by_cases hge : 128 ≤ q
    · obtain ⟨f', hf'⟩ : ∃ f', f = f' + 1 := by
        cases f with
        | zero => have := HQ.out; simp [bnd] at this; omega
        | succ f => exact ⟨f, rfl⟩
      subst hf'
      have HD2 : Hid (ds ++ [q % 128 + 128] ++ encF f' (q / 128) = enc m) := by
        show ds ++ [q % 128 + 128] ++ encF f' (q / 128) = enc m
        rw [← HD.out, encF_big f' q hge, Int.add_comm]; simp
      have HQ2 : Hid (q / 128 < bnd f') := bnd_down f' q HQ.out
      go_wp2_with (go_at_call 67; refine (addByteK_any g most (zs ++ ds) (q % 128 + 128) _ HR.out (by omega) (by omega) (by rw [List.length_append]; have := HLN.out; omega) hmo).mono ?_; rintro e w2 ⟨rfl, hb2, hw2, hk2⟩)
      go_roundw
      case rel => exact ⟨f', q / 128, ds ++ [q % 128 + 128], rfl, by omega, by omega, HQ2.out, HD2.out, by rw [← List.append_assoc]; exact hw2, hbel.trans hb2, HKP.out.trans hk2⟩
      case measure => simp [intOf]; omega
    · have HE3 : Hid (ds ++ [q] = enc m) := by
        show ds ++ [q] = enc m
        rw [← HD.out, encF_small f q (by omega)]
      go_wp2_with (go_at_call 67; refine (addByteK_any g most (zs ++ ds) q _ HR.out (by omega) (by omega) (by rw [List.length_append]; have := HLN.out; omega) hmo).mono ?_; rintro e w2 ⟨rfl, hb2, hw2, hk2⟩)
      go_end0
      exact ⟨rfl, hbel.trans hb2, by rw [← HE3.out, ← List.append_assoc]; exact hw2, HKP.out.trans hk2⟩
set_option maxHeartbeats 400000 in
theorem textK_any (g most : Nat) (zs : List Int) (s : ByteArray) (w : World) (h : Wr w g most (some zs)) (hs : s.size ≤ 1048576) (hfit : zs.length + ((enc s.size).length + s.size) ≤ most) (hmo : most ≤ 1048576) :
    Calls Tryd.prog 92 #[.pointer (some ⟨g, 0, none⟩), .string s] w fun e w' => e = .returned (.tuple #[]) ∧ Below g w w' ∧ Wr w' g most (some (zs ++ (enc s.size ++ bytesOf s))) ∧ Kp g w w' := by
  have hlt := h.lt
  have HW := hid h
  have HFT := hid hfit
  clear h hfit
  have hcv := fun w => run_bytes_of_string (P := Tryd.prog) w 9 22 5 s Tryd.underlying9 Tryd.underlying22 Tryd.underlying5
  go_enter Tryd.func92, Tryd.ntmps92
  go_wp2_with (go_at_call 27; refine (numberK_any g most zs s.size w HW.out (by omega) (by omega) (by have := HFT.out; omega) hmo).mono ?_; rintro e w1 ⟨rfl, hb1, hw1, hk1⟩)
  have HW1 := hid hw1
  have HB1 := hid hb1
  have HK1 := hid hk1
  clear hw1 hb1 hk1
  have hlt1 : g ≤ w1.heap.size := Nat.le_of_lt HW1.out.lt
  have hlt2 := HW1.out.lt
  refine (addK_any g most (zs ++ enc s.size) _ s.size _ (bytesOf s) _ ?gw ?gs (by omega) (fun e => by cases e) (by rw [List.length_append, bytesOf_len]; have := HFT.out; omega) hmo).mono ?_
  case gw => exact HW1.out.alloc _
  case gs => exact rd_conv _ s _ _ (by omega) (grownCap_ge _ _ _ _) (by have := grownCap_le_maxLen w1 s.size 0 5 (by unfold maxLen; omega); unfold maxLen at this; omega)
  rintro e w2 ⟨rfl, hb2, hw2, hk2⟩
  have HB2 := hid hb2
  have HW2 := hid hw2
  have HK2 := hid hk2
  clear hb2 hw2 hk2
  go_wp2
  go_end0
  refine ⟨rfl, HB1.out.trans (((Below.refl g w1).alloc hlt1 _).drew.trans HB2.out), by rw [← List.append_assoc]; exact HW2.out, HK1.out.trans ?_⟩
  exact Kp.trans (Kp.trans (Kp.alloc hlt2 _) (Kp.drew _ _)) HK2.out
end Go.Proofs.YtbonkheoeohaiaaDoor
/-
  Slices of strings: what is read of one; the law's helpers over them; SplitsOk of the program and of the specification.
-/
namespace Go.Proofs.YtbonkheoeohaiaaDoor
open Go.RowKit

/-- The slice value '.slice a n c' has in the world w the strings ss. -/
def Sd (w : World) (a : Option Addr) (n c : Nat) (ss : List ByteArray) : Prop :=
  n = ss.length ∧ n ≤ c ∧ c ≤ 9223372036854775807 ∧ (∀ i : Nat, (ss[i]?.getD ⟨#[]⟩).size ≤ 9223372036854775807) ∧
    (0 < n → ∃ b off, a = some ⟨b, off, none⟩ ∧ b < w.heap.size ∧ ∀ i, i < n → w.cell? ⟨b, off + i, none⟩ = some (.string (ss[i]?.getD ⟨#[]⟩)))
theorem Sd.kept {w w' : World} {a : Option Addr} {n c : Nat} {ss : List ByteArray} (h : Sd w a n c ss) (hB : Below w.heap.size w w') : Sd w' a n c ss := by
  obtain ⟨h1, h2, h3, h4, h5⟩ := h
  refine ⟨h1, h2, h3, h4, fun hp => ?_⟩
  obtain ⟨b, off, rfl, hb, hc⟩ := h5 hp
  refine ⟨b, off, rfl, Nat.lt_of_lt_of_le hb hB.size, fun i hi => ?_⟩
  rw [hB.cell (p := ⟨b, off + i, none⟩) hb]
  exact hc i hi
/-- The list is right from place k on: keys, each above the one ahead. -/
def sOkF (ss : List ByteArray) : Nat → Nat → Bool
  | 0, _ => true
  | f + 1, k => kOk (ss[k]?.getD ⟨#[]⟩) && (decide (k = 0) || Op.bytesLess (ss[k - 1]?.getD ⟨#[]⟩).toList (ss[k]?.getD ⟨#[]⟩).toList) && sOkF ss f (k + 1)
def sOk (ss : List ByteArray) : Bool := decide (ss.length ≤ 3) && sOkF ss ss.length 0
theorem sOkF_no (ss : List ByteArray) (f k : Nat) (h : kOk (ss[k]?.getD ⟨#[]⟩) = false) : sOkF ss (f + 1) k = false := by simp [sOkF, h]
theorem sOkF_0 (ss : List ByteArray) (f : Nat) (h : kOk (ss[0]?.getD ⟨#[]⟩) = true) : sOkF ss (f + 1) 0 = sOkF ss f 1 := by simp only [sOkF, h]; simp
theorem sOkF_s (ss : List ByteArray) (f j : Nat) (h : kOk (ss[j + 1]?.getD ⟨#[]⟩) = true) (b : Bool) (h2 : Op.bytesLess (ss[j]?.getD ⟨#[]⟩).toList (ss[j + 1]?.getD ⟨#[]⟩).toList = b) : sOkF ss (f + 1) (j + 1) = (b && sOkF ss f (j + 1 + 1)) := by
  simp only [sOkF, h, Nat.add_sub_cancel, h2]; simp
end Go.Proofs.YtbonkheoeohaiaaDoor
/-
  RecText of the program and of the specification.
-/
namespace Go.Proofs.YtbonkheoeohaiaaDoor
open Go.RowKit
set_option linter.unusedVariables false
set_option maxHeartbeats 400000 in
/-- A new writer of no bytes. -/
theorem newWriterK_any (most : Nat) (w : World) (hm : most ≤ 1048576) :
    Calls Tryd.prog 24 #[.slice none 0 0, .int .i64 most] w fun e w' => e = .returned (.pointer (some ⟨w.heap.size, 0, none⟩)) ∧ Below w.heap.size w w' ∧ Wr w' w.heap.size most (some []) := by
  go_enter Tryd.func24, Tryd.ntmps24
  have hw0 : Wr (w.alloc (.cells #[.slice none 0 0, .int .i64 most, .nilIface] 103)) w.heap.size most (some []) := by
    refine ⟨.slice none 0 0, .nilIface, [], ?_, ?_, ?_, World.frozen?_alloc_at (hn := rfl) .., World.frozen?_alloc_at (hn := rfl) .., World.ownsRow_nil _ _ _ _, by simp, by omega, by simp, .inl ⟨rfl, rfl⟩⟩
    · rw [World.cell?_alloc_at (hn := rfl)]; rfl
    · rw [World.cell?_alloc_at (hn := rfl)]; rfl
    · rw [World.cell?_alloc_at (hn := rfl)]; rfl
  have hb0 : Below w.heap.size w (w.alloc (.cells #[.slice none 0 0, .int .i64 most, .nilIface] 103)) := (Below.refl _ _).alloc (Nat.le_refl _) _
  have HW0 := hid hw0
  have HB0 := hid hb0
  clear hw0 hb0
  go_wp2_with (go_at_call 63; refine (addK_any w.heap.size most [] none 0 0 [] _ HW0.out ⟨rfl, Nat.le_refl _, by omega, by omega, by simp, fun h => by omega⟩ (by omega) (fun _ => rfl) (by simp) hm).mono ?_; rintro e w1 ⟨rfl, hb1, hw1, hk1⟩)
  go_ret
  exact ⟨rfl, HB0.out.trans hb1, hw1⟩
theorem sd_two (w : World) (x y : ByteArray) (T : TypeId) (hx : x.size ≤ 20) (hy : y.size ≤ 20) : Sd (w.alloc (.cells #[.string x, .string y] T)) (some ⟨w.heap.size, 0, none⟩) 2 2 [x, y] := by
  refine ⟨rfl, Nat.le_refl _, by omega, fun i => ?_, fun _ => ⟨w.heap.size, 0, rfl, by simp, fun i hi => ?_⟩⟩
  · match i with
    | 0 => simp; omega
    | 1 => simp; omega
    | n + 2 => simp; decide
  · rw [World.cell?_alloc_at (hn := rfl)]
    have : i = 0 ∨ i = 1 := by omega
    rcases this with rfl | rfl <;> simp
theorem sd_one (w : World) (x : ByteArray) (T : TypeId) (hx : x.size ≤ 20) : Sd (w.alloc (.cells #[.string x] T)) (some ⟨w.heap.size, 0, none⟩) 1 1 [x] := by
  refine ⟨rfl, Nat.le_refl _, by omega, fun i => ?_, fun _ => ⟨w.heap.size, 0, rfl, by simp, fun i hi => ?_⟩⟩
  · match i with
    | 0 => simp; omega
    | n + 1 => simp; decide
  · rw [World.cell?_alloc_at (hn := rfl)]
    have : i = 0 := by omega
    subst this; simp
end Go.Proofs.YtbonkheoeohaiaaDoor
/-
  What is known of names of transactions, of locks and of tables of locks that come in as arguments.
-/
namespace Go.Proofs.YtbonkheoeohaiaaDoor
open Go.ChangeShapes Go.WideShapes Go.ChangeAt Go.RowKit
theorem arrX3 {α : Type} {cs : Array α} (h : cs.size = 3) : ∃ a b c, cs = #[a, b, c] := by
  obtain ⟨l⟩ := cs
  match l, h with
  | [a, b, c], _ => exact ⟨a, b, c, rfl⟩
theorem arrX6 {α : Type} {cs : Array α} (h : cs.size = 6) : ∃ a b c d e f, cs = #[a, b, c, d, e, f] := by
  obtain ⟨l⟩ := cs
  match l, h with
  | [a, b, c, d, e, f], _ => exact ⟨a, b, c, d, e, f, rfl⟩
theorem arrX2 {α : Type} {cs : Array α} (h : cs.size = 2) : ∃ a b, cs = #[a, b] := by
  obtain ⟨l⟩ := cs
  match l, h with
  | [a, b], _ => exact ⟨a, b, rfl⟩
set_option maxRecDepth 100000 in
theorem tx_three : ∃ f0 f1 f2 : Field, Tryd.prog.underlying 39 = some (.struct #[f0, f1, f2]) ∧ f0.type = 3 ∧ f1.type = 3 ∧ f2.type = 3 ∧ f0.offset = 0 ∧ f1.offset = 1 ∧ f2.offset = 2 := ⟨_, _, _, Tryd.underlying39, rfl, rfl, rfl, rfl, rfl, rfl⟩
set_option maxRecDepth 100000 in
theorem open_txc {H : Type} {enc : TypeId × Value → H} {w : World} {base : Nat} {spare : Nat → Bool} {held : Bool} {fuel : Nat} {v0 v1 v2 : Value} {x : DataW H × List MemPlace}
    (h : DataW.trod enc Tryd.prog w base spare held fuel 39 [v0, v1, v2] = some x) : ∃ t : TX, v0 = .int .i64 t.1 ∧ v1 = .int .i64 t.2.1 ∧ v2 = .int .i64 t.2.2 := by
  obtain ⟨f0, f1, f2, hs, t0, t1, t2, o0, o1, o2⟩ := tx_three
  have k0 : Tryd.prog.cellsOf 3 = 1 := by kernel_rfl
  obtain ⟨y0, y1, y2, n', _, _, d0, d1, d2⟩ := Go.Deep.trod_struct3 hs h
  rw [t0, o0, k0] at d0
  rw [t1, o1, k0] at d1
  rw [t2, o2, k0] at d2
  simp at d0 d1 d2
  obtain ⟨s0, e0, _⟩ := DataW.trod_int Tryd.underlying3 d0
  obtain ⟨s1, e1, _⟩ := DataW.trod_int Tryd.underlying3 d1
  obtain ⟨s2, e2, _⟩ := DataW.trod_int Tryd.underlying3 d2
  simp at e0 e1 e2
  exact ⟨(s0, s1, s2), e0, e1, e2⟩
set_option maxRecDepth 100000 in
theorem open_tx {H : Type} {enc : TypeId × Value → H} {w : World} {base : Nat} {spare : Nat → Bool} {held : Bool} {r : Reach} {b0 : Nat} {v : Value} {d : DataW H} {p : List MemPlace}
    (hv : Value.okWide Tryd.prog w r b0 39 v) (h : DataW.Trod enc Tryd.prog w base spare held 39 v d p) : ∃ c e n : Int, v = .agg #[.int .i64 c, .int .i64 e, .int .i64 n] := by
  obtain ⟨f0, f1, f2, hs, t0, t1, t2, o0, o1, o2⟩ := tx_three
  obtain ⟨cs, rfl, hsz⟩ := okWide_struct hs hv
  obtain ⟨c0, c1, c2, rfl⟩ := arrX3 (hsz.trans (by kernel_rfl))
  obtain ⟨fuel, hf⟩ := h
  simp [Value.cells] at hf
  obtain ⟨t, rfl, rfl, rfl⟩ := open_txc hf
  exact ⟨t.1, t.2.1, t.2.2, rfl⟩
end Go.Proofs.YtbonkheoeohaiaaDoor
/-
  What is known of slices of pairs that come in as arguments.
-/
namespace Go.Proofs.YtbonkheoeohaiaaDoor
open Go.ChangeShapes Go.WideShapes Go.ChangeAt Go.RowKit

theorem pair_two : ∃ f0 f1 : Field, Tryd.prog.underlying 115 = some (.struct #[f0, f1]) ∧ f0.type = 9 ∧ f1.type = 9 ∧ f0.offset = 0 ∧ f1.offset = 1 := ⟨_, _, Tryd.underlying115, rfl, rfl, rfl, rfl⟩
theorem open_pairs {H : Type} {enc : TypeId × Value → H} {w : World} {base : Nat} {spare : Nat → Bool} {held : Bool} {fuel : Nat} {v : Value} {x : DataW H × List MemPlace}
    (h : DataW.trod enc Tryd.prog w base spare held fuel 43 [v] = some x) : ∃ l : List PB, Pr w (fun _ => True) v l ∧ szOkP l := by
  obtain ⟨f0, f1, hs, t0, t1, o0, o1⟩ := pair_two
  have k : Tryd.prog.cellsOf 9 = 1 := by kernel_rfl
  rcases Go.Deep.open_slice_pairs Tryd.underlying43 hs (by kernel_rfl) o0 o1 (by rw [t0]; exact k) (by rw [t1]; exact k) h with ⟨hcs, _⟩ | ⟨a, len, cap, m, n, V0, V1, D0, D1, P0, P1, hcs, _, hl, hm, hmm, _, hc⟩
  · simp at hcs
    subst hcs
    exact ⟨[], rw_nil _ _, fun i => by simp [pAtB]; decide⟩
  · simp at hcs
    subst hcs
    have hlm : len ≤ m := by rw [hmm]; split <;> omega
    have ex : ∀ i, ∃ p : PB, i < m → w.cell? (a.add (i * 2)) = some (.string p.1) ∧ w.cell? (a.add (i * 2 + 1)) = some (.string p.2) ∧ p.1.size ≤ maxLen ∧ p.2.size ≤ maxLen := by
      intro i
      by_cases hi : i < m
      · obtain ⟨c0, c1, d0, d1⟩ := hc i hi
        rw [t0] at d0
        rw [t1] at d1
        obtain ⟨s0, e0, _, l0⟩ := DataW.trod_string Tryd.underlying9 d0
        obtain ⟨s1, e1, _, l1⟩ := DataW.trod_string Tryd.underlying9 d1
        simp at e0 e1
        exact ⟨(s0, s1), fun _ => ⟨by rw [c0, e0], by rw [c1, e1], l0, l1⟩⟩
      · exact ⟨(⟨#[]⟩, ⟨#[]⟩), fun h => absurd h hi⟩
    obtain ⟨f, hf⟩ := Classical.axiomOfChoice ex
    unfold maxLen at hm hf
    refine ⟨(List.range len).map f, ?_, fun i => ?_⟩
    · refine ⟨_, cap, by simp; rfl, by simpa using hl, by omega, fun h0 => ?_, fun h0 => (by cases h0), fun hp => ?_⟩
      · simp at h0; subst h0; rfl
      · simp at hp
        obtain ⟨b, off, spot⟩ := a
        have hc0 := (hf 0 (by omega)).1
        have hspot : spot = none := by simpa [Addr.add] using World.cell?_spot hc0
        subst hspot
        refine ⟨b, off, rfl, by simpa [Addr.add] using block_lt hc0, trivial, fun j u hu => ?_⟩
        have hj : j < len * 2 := by
          have := (List.getElem?_eq_some_iff.1 hu).1
          simpa [pcs_length] using this
        rcases Nat.mod_two_eq_zero_or_one j with e | e
        · have h1 := (pcs_at ((List.range len).map f) (j / 2) (by simp; omega)).1
          rw [show j / 2 * 2 = j by omega, hu] at h1
          have h2 := (hf (j / 2) (by omega)).1
          rw [Addr.add_lit, show j / 2 * 2 = j by omega] at h2
          rw [h2, h1]
          simp [pAtB, show j / 2 < len by omega]
        · have h1 := (pcs_at ((List.range len).map f) (j / 2) (by simp; omega)).2
          rw [show j / 2 * 2 + 1 = j by omega, hu] at h1
          have h2 := (hf (j / 2) (by omega)).2.1
          rw [Addr.add_lit, show j / 2 * 2 + 1 = j by omega] at h2
          rw [h2, h1]
          simp [pAtB, show j / 2 < len by omega]
    · by_cases hi : i < len
      · have := hf i (by omega)
        simp [pAtB, hi]
        omega
      · simp [pAtB, hi]
        decide
set_option maxRecDepth 100000 in
theorem open_pairS {H : Type} {enc : TypeId × Value → H} {w : World} {base : Nat} {spare : Nat → Bool} {held : Bool} {r : Reach} {b0 : Nat} {v : Value} {d : DataW H} {p : List MemPlace}
    (hv : Value.okWide Tryd.prog w r b0 43 v) (h : DataW.Trod enc Tryd.prog w base spare held 43 v d p) : ∃ (a : Option Addr) (n c : Nat) (l : List PB), v = .slice a n c ∧ Pr w (fun _ => True) (.slice a n c) l ∧ szOkP l := by
  obtain ⟨a, n, c, rfl⟩ := okWide_slice Tryd.underlying43 hv
  obtain ⟨fuel, hf⟩ := h
  simp [Value.cells] at hf
  obtain ⟨l, h1, h2⟩ := open_pairs hf
  exact ⟨a, n, c, l, rfl, h1, h2⟩
end Go.Proofs.YtbonkheoeohaiaaDoor
