/-
  Calls: when one is right, on both sides; the law's helpers; the law FnExactCallOk.
-/
import Derived.Test.YtjddkofpfmjojaaGreatDoorMt1
import Derived.Laws.IdiomStrings
import Derived.Deep.RegionWith
import Derived.Maps.AppendAt
import Derived.Lib.Join
import Derived.Lib.Bytealg
import Derived.Deep.RegionHeld3
namespace Go.Proofs.YtjddkofpfmjojaaGreatDoor
open Go.RowKit
set_option linter.unusedVariables false
def clOk (kd k : Int) (ky vl lo hi : ByteArray) (mo : Int) (bk : Bool) : Bool := if kd = 2 then akOk k ky vl lo hi mo bk else if kd = 1 ∨ kd = 3 ∨ kd = 4 then akZ k ky vl lo hi mo bk else false
theorem clOk_2 (k : Int) (ky vl lo hi : ByteArray) (mo : Int) (bk : Bool) : clOk 2 k ky vl lo hi mo bk = akOk k ky vl lo hi mo bk := rfl
theorem clOk_1 (k : Int) (ky vl lo hi : ByteArray) (mo : Int) (bk : Bool) : clOk 1 k ky vl lo hi mo bk = akZ k ky vl lo hi mo bk := rfl
theorem clOk_3 (k : Int) (ky vl lo hi : ByteArray) (mo : Int) (bk : Bool) : clOk 3 k ky vl lo hi mo bk = akZ k ky vl lo hi mo bk := rfl
theorem clOk_4 (k : Int) (ky vl lo hi : ByteArray) (mo : Int) (bk : Bool) : clOk 4 k ky vl lo hi mo bk = akZ k ky vl lo hi mo bk := rfl
theorem clOk_in {kd : Int} (h2 : ¬ kd = 2) (h1 : 1 ≤ kd) (h4 : kd ≤ 4) (k : Int) (ky vl lo hi : ByteArray) (mo : Int) (bk : Bool) : clOk kd k ky vl lo hi mo bk = akZ k ky vl lo hi mo bk := by
  unfold clOk
  rw [if_neg h2, if_pos (by omega)]
theorem clOk_no {kd : Int} (h1 : ¬ kd = 1) (h2 : ¬ kd = 2) (h3 : ¬ kd = 3) (h4 : ¬ kd = 4) (k : Int) (ky vl lo hi : ByteArray) (mo : Int) (bk : Bool) : clOk kd k ky vl lo hi mo bk = false := by
  unfold clOk
  rw [if_neg h2, if_neg (by omega)]
set_option maxHeartbeats 3200000 in
theorem implCallOk_any (kd : Int) (k : Int) (ky vl lo hi : ByteArray) (mo : Int) (bk : Bool) (w : World) : Calls Tryz.prog 54 #[.agg #[.int .i64 kd, .int .i64 k, .string ky, .string vl, .string lo, .string hi, .int .i64 mo, .bool bk]] w fun r w' => r = .returned (.bool (clOk kd k ky vl lo hi mo bk)) ∧ Below w.heap.size w w' := by
  have B0 := hid (below_new (o := .cells #[.int .i64 kd, .int .i64 k, .string ky, .string vl, .string lo, .string hi, .int .i64 mo, .bool bk] 28) (w := w) (Below.refl _ _))
  by_cases h2 : kd = 2
  · subst h2
    have C1 := hid (fun w => implAskOk_any k ky vl lo hi mo bk w)
    have HV := hid (clOk_2 k ky vl lo hi mo bk)
    generalize clOk 2 k ky vl lo hi mo bk = z0 at *
    generalize akOk k ky vl lo hi mo bk = z1 at *
    go_enter Tryz.func54, Tryz.ntmps54
    go_wp2_with fail
    refine (C1.out _).mono ?_
    rintro r w1 ⟨rfl, hb⟩
    have B1 := hid (btR B0.out hb)
    clear hb B0
    go_wp2
    go_ret
    exact ⟨by rw [HV.out]; rfl, B1.out⟩
  · by_cases h1 : kd = 1
    · subst h1
      have hq := eql_askZ k ky vl lo hi mo bk
      have hg := guard_ask .eql
      have HV := hid (clOk_1 k ky vl lo hi mo bk)
      generalize clOk 1 k ky vl lo hi mo bk = z0 at *
      generalize akZ k ky vl lo hi mo bk = z1 at *
      go_enter Tryz.func54, Tryz.ntmps54
      go_wp2
      go_ret
      exact ⟨by rw [HV.out]; rfl, B0.out⟩
    · by_cases h3 : kd = 3
      · subst h3
        have hq := eql_askZ k ky vl lo hi mo bk
        have hg := guard_ask .eql
        have HV := hid (clOk_3 k ky vl lo hi mo bk)
        generalize clOk 3 k ky vl lo hi mo bk = z0 at *
        generalize akZ k ky vl lo hi mo bk = z1 at *
        go_enter Tryz.func54, Tryz.ntmps54
        go_wp2
        go_ret
        exact ⟨by rw [HV.out]; rfl, B0.out⟩
      · by_cases h4 : kd = 4
        · subst h4
          have hq := eql_askZ k ky vl lo hi mo bk
          have hg := guard_ask .eql
          have HV := hid (clOk_4 k ky vl lo hi mo bk)
          generalize clOk 4 k ky vl lo hi mo bk = z0 at *
          generalize akZ k ky vl lo hi mo bk = z1 at *
          go_enter Tryz.func54, Tryz.ntmps54
          go_wp2
          go_ret
          exact ⟨by rw [HV.out]; rfl, B0.out⟩
        · have HV := hid (clOk_no h1 h2 h3 h4 k ky vl lo hi mo bk)
          generalize clOk kd k ky vl lo hi mo bk = z0 at *
          go_enter Tryz.func54, Tryz.ntmps54
          go_wp2
          go_ret
          exact ⟨by rw [HV.out]; rfl, B0.out⟩
set_option maxHeartbeats 3200000 in
theorem specCallOk_any (kd : Int) (k : Int) (ky vl lo hi : ByteArray) (mo : Int) (bk : Bool) (w : World) : Calls Tryz.prog 49 #[.agg #[.int .i64 kd, .int .i64 k, .string ky, .string vl, .string lo, .string hi, .int .i64 mo, .bool bk]] w fun r w' => r = .returned (.bool (clOk kd k ky vl lo hi mo bk)) ∧ Below w.heap.size w w' := by
  have B0 : Hid (Below w.heap.size w ((w.alloc (.cells #[.int .i64 kd, .int .i64 k, .string ky, .string vl, .string lo, .string hi, .int .i64 mo, .bool bk] 28)).alloc (.cells #[.int .i64 0, .string ⟨#[]⟩, .string ⟨#[]⟩, .string ⟨#[]⟩, .string ⟨#[]⟩, .int .i64 0, .bool false] 26))) := below_new (below_new (Below.refl _ _))
  by_cases h2 : kd = 2
  · subst h2
    have C1 := hid (fun w => specAskOk_any k ky vl lo hi mo bk w)
    have HV := hid (clOk_2 k ky vl lo hi mo bk)
    generalize clOk 2 k ky vl lo hi mo bk = z0 at *
    generalize akOk k ky vl lo hi mo bk = z1 at *
    go_enter Tryz.func49, Tryz.ntmps49
    go_wp2_with fail
    refine (C1.out _).mono ?_
    rintro r w1 ⟨rfl, hb⟩
    have B1 := hid (btR B0.out hb)
    clear hb B0
    go_wp2
    go_ret
    exact ⟨by rw [HV.out]; rfl, B1.out⟩
  · by_cases h1 : 1 ≤ kd
    · by_cases h4 : kd ≤ 4
      · have HV := hid (clOk_in h2 h1 h4 k ky vl lo hi mo bk)
        have hq := eql_askZ k ky vl lo hi mo bk
        have hg := guard_ask .eql
        generalize clOk kd k ky vl lo hi mo bk = z0 at *
        generalize akZ k ky vl lo hi mo bk = z1 at *
        go_enter Tryz.func49, Tryz.ntmps49
        go_wp2
        go_ret
        exact ⟨by rw [HV.out]; rfl, B0.out⟩
      · have HV := hid (clOk_no (kd := kd) (by omega) h2 (by omega) (by omega) k ky vl lo hi mo bk)
        generalize clOk kd k ky vl lo hi mo bk = z0 at *
        go_enter Tryz.func49, Tryz.ntmps49
        go_wp2
        go_ret
        exact ⟨by rw [HV.out]; rfl, B0.out⟩
    · have HV := hid (clOk_no (kd := kd) (by omega) h2 (by omega) (by omega) k ky vl lo hi mo bk)
      generalize clOk kd k ky vl lo hi mo bk = z0 at *
      go_enter Tryz.func49, Tryz.ntmps49
      go_wp2
      go_ret
      exact ⟨by rw [HV.out]; rfl, B0.out⟩
theorem load_call {w : World} {g : Nat} {kd k : Int} {ky vl lo hi : ByteArray} {mo : Int} {bk : Bool} (c0 : w.cell? ⟨g, 0, none⟩ = some (.int .i64 kd)) (c1 : w.cell? ⟨g, 1, none⟩ = some (.int .i64 k)) (c2 : w.cell? ⟨g, 2, none⟩ = some (.string ky)) (c3 : w.cell? ⟨g, 3, none⟩ = some (.string vl)) (c4 : w.cell? ⟨g, 4, none⟩ = some (.string lo)) (c5 : w.cell? ⟨g, 5, none⟩ = some (.string hi)) (c6 : w.cell? ⟨g, 6, none⟩ = some (.int .i64 mo)) (c7 : w.cell? ⟨g, 7, none⟩ = some (.bool bk)) :
    (loadVar 28 ⟨g, 0, none⟩).run Tryz.prog w = .ok (.agg #[.int .i64 kd, .int .i64 k, .string ky, .string vl, .string lo, .string hi, .int .i64 mo, .bool bk]) w := by go_simp
theorem results_call {fn : Func} {p : Tmp} (h : fn.results = #[.cell p 28]) (tmps : Array Value) (w : World) (g : Nat) {kd k : Int} {ky vl lo hi : ByteArray} {mo : Int} {bk : Bool} (hp : tmps.getD p undef = .pointer (some ⟨g, 0, none⟩)) (c0 : w.cell? ⟨g, 0, none⟩ = some (.int .i64 kd)) (c1 : w.cell? ⟨g, 1, none⟩ = some (.int .i64 k)) (c2 : w.cell? ⟨g, 2, none⟩ = some (.string ky)) (c3 : w.cell? ⟨g, 3, none⟩ = some (.string vl)) (c4 : w.cell? ⟨g, 4, none⟩ = some (.string lo)) (c5 : w.cell? ⟨g, 5, none⟩ = some (.string hi)) (c6 : w.cell? ⟨g, 6, none⟩ = some (.int .i64 mo)) (c7 : w.cell? ⟨g, 7, none⟩ = some (.bool bk)) :
    (results fn tmps).run Tryz.prog w = .ok (.agg #[.int .i64 kd, .int .i64 k, .string ky, .string vl, .string lo, .string hi, .int .i64 mo, .bool bk]) w := by
  have hp' : tmps[p]?.getD undef = .pointer (some ⟨g, 0, none⟩) := by simpa using hp
  simp [results, h, hp', asAddr, load_call c0 c1 c2 c3 c4 c5 c6 c7]
end Go.Proofs.YtjddkofpfmjojaaGreatDoor
/-
  What the model's PutVar answers, for every slice of bytes and every number.
-/
namespace Go.Proofs.YtjddkofpfmjojaaGreatDoor
open Go.RowKit

set_option maxHeartbeats 400000 in
/-- What a put leaves: nil and false, or a row of the call's own and true. -/
def Put (w : World) (r : Option (List Int)) (e : Ending) (w' : World) : Prop :=
  Below w.heap.size w w' ∧ ((r = none ∧ e = .returned (.tuple #[.slice none 0 0, .bool false])) ∨ ∃ v zs, r = some zs ∧ e = .returned (.tuple #[v, .bool true]) ∧ Ob w' w.heap.size v zs)

end Go.Proofs.YtjddkofpfmjojaaGreatDoor
/-
  What the program's PutVar answers, for every slice of bytes and every number: the same as the model's.
-/
namespace Go.Proofs.YtjddkofpfmjojaaGreatDoor
open Go.RowKit

theorem addSt_start (most : Nat) (zs : List Int) : addSt most (some []) zs = if zs.length ≤ most then some zs else none := by
  unfold addSt; simp
theorem addSt_two (most : Nat) (xs ys : List Int) : addSt most (addSt most (some []) xs) ys = if (xs ++ ys).length ≤ most then some (xs ++ ys) else none := by
  rw [addSt_addSt, addSt_start]
theorem Ob.mono {w : World} {B B' : Nat} {v : Value} {zs : List Int} (h : Ob w B v zs) (hB : B' ≤ B) : Ob w B' v zs := by
  obtain ⟨h1, h2⟩ := h
  refine ⟨h1, ?_⟩
  rcases h2 with h | ⟨g, cap, cur, e, hbg, hr⟩
  · exact .inl h
  · exact .inr ⟨g, cap, cur, e, Nat.le_trans hB hbg, hr⟩
/-- What told tells, as a put. -/
theorem told_put (w w1 : World) (most : Nat) (st : Option (List Int)) (h : Wr w1 w.heap.size most st) (hb : Below w.heap.size w w1) :
    Calls Tryz.prog 86 #[.pointer (some ⟨w.heap.size, 0, none⟩)] w1 fun e w' => ∃ v b, e = .returned (.tuple #[v, .bool b]) ∧ (∃ a n c, v = .slice a n c) ∧ Put w st (.returned (.tuple #[v, .bool b])) w' := by
  cases st with
  | none =>
    refine (told_none w.heap.size most w1 h).mono ?_
    rintro e w' ⟨rfl, rfl⟩
    exact ⟨_, _, rfl, ⟨_, _, _, rfl⟩, hb, .inl ⟨rfl, rfl⟩⟩
  | some out =>
    refine (told_some w.heap.size most out w1 h).mono ?_
    rintro e w' ⟨v, rfl, ho, rfl⟩
    obtain ⟨a, c, hv⟩ := ho.shape
    exact ⟨_, _, rfl, ⟨_, _, _, hv⟩, hb, .inr ⟨v, out, rfl, rfl, ho.mono (Nat.le_succ _)⟩⟩
end Go.Proofs.YtjddkofpfmjojaaGreatDoor
/-
  'append(v, make([]byte, k)...)' onto a slice of bytes that the call owns; '[]byte(s)' as a slice that is read.
-/
namespace Go.Proofs.YtjddkofpfmjojaaGreatDoor
open Go.RowKit

theorem zeroCells_one (k : Nat) : Builtin.zeroCells #[.int .u8 0] k = (List.replicate k (Value.int .u8 0)).toArray := by
  apply Array.ext
  · simp [Builtin.zeroCells]
  · intro i h1 h2
    simp [Builtin.zeroCells, Nat.mod_one]

theorem run_append_zeros {w : World} (ty : TypeId) (base : Nat) (v : Value) (zs : List Int) (hown : Ob w base v zs) (k : Nat) (hb : zs.length + k ≤ 70368744177664) (hbase : base ≤ w.heap.size) :
    ∃ v' w', (Builtin.append_ #[71, 3] ty #[v, .int .i64 (k : Int)]).run Tryz.prog w = .ok v' w' ∧ Ob w' base v' (zs ++ List.replicate k 0) ∧ w.grownBy w' v.ownBlock := by
  obtain ⟨i0, hi, hz0, hz1, hz2⟩ := info_parts infoU8
  have hwr : IntKind.i64.wrap (k : Int) = k := by rw [IntKind.wrap_i64]; omega
  have hneg : ¬ ((k : Int) < 0) := by omega
  have h48 : ¬ (281474976710656 < (k : Int)) := by omega
  have ht := Tryz.underlying71
  have htn := Tryz.underlying3
  have grown : ∀ (old : Nat), old < zs.length + k → ∀ (row : Option Nat),
      Ob (w.drew.alloc (.cells ((zs.map (Value.int .u8)).toArray ++ Builtin.zeroCells #[.int .u8 0] k ++ Builtin.zeroCells #[.int .u8 0] (grownCap w (zs.length + k) old 5 - (zs.length + k))) 5)) base
        (.slice (some ⟨w.heap.size, 0, none⟩) (zs.length + k) (grownCap w (zs.length + k) old 5)) (zs ++ List.replicate k 0) ∧
      w.grownBy (w.drew.alloc (.cells ((zs.map (Value.int .u8)).toArray ++ Builtin.zeroCells #[.int .u8 0] k ++ Builtin.zeroCells #[.int .u8 0] (grownCap w (zs.length + k) old 5 - (zs.length + k))) 5)) row := by
    intro old ho row
    have hge := grownCap_ge w (zs.length + k) old 5
    have hcm : grownCap w (zs.length + k) old 5 ≤ maxLen := grownCap_le_maxLen w (zs.length + k) old 5 (by unfold maxLen; omega)
    have hl : (zs ++ List.replicate k (0 : Int)).length = zs.length + k := by simp
    refine ⟨⟨by simp, .inr ⟨w.heap.size, _, _, by rw [hl], hbase, heap_alloc_new w.drew _, by rw [hl]; exact hge, hcm, ?_, ?_⟩⟩, ⟨rfl, rfl, rfl, by simp, fun j hj _ => Below.heap_alloc w.drew _ j hj⟩⟩
    · simp [zeroCells_one]; omega
    · rw [hl, zeroCells_one, Nat.mul_one]
      simp only [Array.toList_append, List.map_append, List.map_replicate]
      rw [List.take_left' (by simp)]
  have hcc : (Value.int .u8 0).cells = #[.int .u8 0] := rfl
  rcases hown.2 with ⟨rfl, h0⟩ | ⟨g, cap, cur, rfl, hbg, hg, hnc, hcm, hcs, htake⟩
  · have hx : zs = [] := List.eq_nil_of_length_eq_zero h0
    subst hx
    by_cases hk : k = 0
    · subst hk
      refine ⟨.slice none 0 0, w, ?_, World.ownsRow_nil w base 5 1, ⟨rfl, rfl, rfl, Nat.le_refl _, fun _ _ _ => rfl⟩⟩
      simp [Builtin.append_, run_underlying ht, run_underlying htn, sizeOf, typeInfo, hi, hz2, asInt, asIntOf, IntKind.wrap_i64]
    · have hgr := grown 0 (by simp; omega) (Value.ownBlock (.slice none 0 0))
      simp only [List.length_nil, Nat.zero_add, List.map_nil, List.nil_append, Array.empty_append] at hgr ⊢
      refine ⟨_, _, ?_, hgr.1, hgr.2⟩
      have h63 : ¬ (9223372036854775807 < (k : Int)) := by omega
      have hfit := growslice_fits (need := k) (old := 0) (bytes := 1) (by omega) (by omega)
      have hfit' : ¬ (281474976710656 < Builtin.nextslicecap k 0) := by omega
      have hk' : ¬ k ≤ 0 := by omega
      simp [Builtin.append_, run_underlying ht, run_underlying htn, sizeOf, typeInfo, hi, hz0, hz1, hz2, asInt, asIntOf, hwr, hneg, h48, hk, h63, hfit', zeroValue, hcc, Question.forced, Builtin.firstCells, newRow, grownCap]
  · by_cases hroom : zs.length + k ≤ cap
    · have hst := run_storeCells_at Tryz.prog g zs.length 5 (List.replicate k (.int .u8 0)) 0 cur w hg (by simp; omega) (by intro v hv; obtain ⟨_, rfl⟩ := List.mem_replicate.1 hv; rfl)
      simp only [Nat.add_zero, List.length_replicate] at hst
      have hr : (Builtin.append_ #[71, 3] ty #[.slice (some ⟨g, 0, none⟩) zs.length cap, .int .i64 (k : Int)]).run Tryz.prog w = .ok (.slice (some ⟨g, 0, none⟩) (zs.length + k) cap) (w.setRow g (cur.toList.take zs.length ++ List.replicate k (Value.int .u8 0) ++ cur.toList.drop (zs.length + k)).toArray) := by
        by_cases hk : k = 0
        · subst hk
          simp only [List.replicate_zero, List.append_nil, Nat.add_zero, List.take_append_drop, Array.toArray_toList] at hst ⊢
          simp [Builtin.append_, run_underlying ht, run_underlying htn, sizeOf, typeInfo, hi, hz1, hz2, asInt, asIntOf, IntKind.wrap_i64, hnc, Addr.add_lit, hst]
        · simp [Builtin.append_, run_underlying ht, run_underlying htn, sizeOf, typeInfo, hi, hz0, hz1, hz2, asInt, asIntOf, hwr, hneg, h48, hk, hroom, zeroValue, hcc, zeroCells_one, Addr.add_lit, hst]
      refine ⟨_, _, hr, ⟨by simp, .inr ⟨g, cap, _, by simp, hbg, setRow_heap w g cur _ 5 _ hg, by simp; exact hroom, hcm, ?_, ?_⟩⟩, ⟨rfl, rfl, rfl, by simp, fun j _ hj => setRow_other w g j _ (fun e => hj (by simp [Value.ownBlock, e]))⟩⟩
      · simp only [List.size_toArray, List.length_append, List.length_take, List.length_drop, List.length_replicate, Array.length_toList]
        omega
      · have ht2 : cur.toList.take zs.length = zs.map (Value.int .u8) := by rw [← htake, Nat.mul_one]
        rw [ht2]
        simp only [List.map_append, List.map_replicate]
        rw [List.take_left' (by simp)]
    · have holds := hown.cells (g := g) rfl
      have hold : (Builtin.firstCells 1 zs.length (.slice (some ⟨g, 0, none⟩) zs.length cap)).run Tryz.prog w.drew = .ok (zs.map (Value.int .u8)).toArray w.drew := run_firstCells_some w.drew 1 zs.length ⟨g, 0, none⟩ zs.length cap (zs.map (Value.int .u8)) (by simp) holds
      have hgr := grown cap (by omega) (Value.ownBlock (.slice (some ⟨g, 0, none⟩) zs.length cap))
      refine ⟨_, _, ?_, hgr.1, hgr.2⟩
      have h63 : ¬ (9223372036854775807 < (zs.length : Int) + (k : Int)) := by omega
      have hfit := growslice_fits (need := zs.length + k) (old := cap) (bytes := 1) (by omega) (by omega)
      have hfit' : ¬ (281474976710656 < Builtin.nextslicecap (zs.length + k) cap) := by omega
      have hk : ¬ k = 0 := by omega
      simp [Builtin.append_, run_underlying ht, run_underlying htn, sizeOf, typeInfo, hi, hz0, hz1, hz2, asInt, asIntOf, hwr, hneg, h48, hk, h63, hfit', hroom, zeroValue, hcc, Question.forced, hold, newRow, grownCap]

theorem wpList_append_zeros {w : World} {ops : Array Oper} {rest : List Oper} {o : Oper} {a : Act} {Q : Exit → Act → World → Prop} (hgd : o.guard = none) (s x : Operand)
    (ho : o.op = .call { callee := .builtin .append, args := #[s, x], argTypes := #[71, 3] }) (base : Nat) (v : Value) (zs : List Int) (hs : a.eval s = v) (hown : Ob w base v zs)
    (k : Nat) (hx : a.eval x = .int .i64 (k : Int)) (hb : zs.length + k ≤ 70368744177664) (hbase : base ≤ w.heap.size)
    (h : ∀ v' w', Ob w' base v' (zs ++ List.replicate k 0) → w.grownBy w' v.ownBlock → wpList Tryz.prog ops Q rest (a.put o.dst v') w') : wpList Tryz.prog ops Q (o :: rest) a w := by
  refine wpList_plain hgd fun K hK => ?_
  obtain ⟨v', w', hr, h2, h3⟩ := run_append_zeros (w := w) o.type base v zs hown k hb hbase
  unfold Oper.wp execOp
  simp only [ho, resolve, invoke, builtin, Sem.run_bind, Sem.run_pure, Result.andThen_ok, List.map_toArray, List.map_cons, List.map_nil, hs, hx, hr]
  exact hK _ _ (h v' w' h2 h3)

/-- The bytes of a string. -/
def bytesOf (s : ByteArray) : List Int := s.data.toList.map fun b => (b.toNat : Int)
theorem bytesOf_len (s : ByteArray) : (bytesOf s).length = s.size := by
  simp [bytesOf]
theorem bytesOf_byte (s : ByteArray) : ∀ z ∈ bytesOf s, 0 ≤ z ∧ z ≤ 255 := by
  intro z hz
  obtain ⟨b, _, rfl⟩ := List.mem_map.1 hz
  have := b.toNat_lt
  omega
theorem rd_conv (w : World) (s : ByteArray) (c : Nat) (fr : Nat × Nat) (hs : s.size ≤ 140737488355328) (hc : s.size ≤ c) (hm : c ≤ 9223372036854775807) :
    Rd (w.alloc (.cells (bytesRow s c) 5 fr)) (some ⟨w.heap.size, 0, none⟩) s.size c (bytesOf s) := by
  refine ⟨(bytesOf_len s).symm, hc, hm, hs, fun i => ?_, fun _ => ⟨w.heap.size, 0, rfl, by simp, fun i hi => ?_⟩⟩
  · by_cases hi : i < (bytesOf s).length
    · rw [List.getElem?_eq_getElem hi]; exact bytesOf_byte s _ (List.getElem_mem hi)
    · rw [List.getElem?_eq_none (by omega)]; simp
  · rw [World.cell?_alloc_mark]
    simp [bytesRow, bytesOf, Array.getElem?_append, hi]
end Go.Proofs.YtjddkofpfmjojaaGreatDoor
/-
  'string(b)' of a slice of bytes that is read.
-/
namespace Go.Proofs.YtjddkofpfmjojaaGreatDoor
open Go.RowKit

/-- The string of these bytes. -/
def strOf (zs : List Int) : ByteArray := ⟨(zs.map fun z => UInt8.ofNat z.toNat).toArray⟩
theorem foldl_push (zs : List Int) : ∀ s : ByteArray, zs.foldl (fun r n => r.push (UInt8.ofNat n.toNat)) s = ⟨(s.data.toList ++ zs.map fun z => UInt8.ofNat z.toNat).toArray⟩ := by
  induction zs with
  | nil => intro s; simp
  | cons z zs ih =>
    intro s
    rw [List.foldl_cons, ih]
    simp [ByteArray.push]
theorem strOf_foldl (zs : List Int) : zs.foldl (fun r n => r.push (UInt8.ofNat n.toNat)) ByteArray.empty = strOf zs := by
  rw [foldl_push]
  simp only [strOf]
  rfl

/-- 'string(b)'. -/
theorem run_str {w : World} {a : Option Addr} {n c : Nat} {zs : List Int} (h : Rd w a n c zs) : (convert 71 9 (.slice a n c)).run Tryz.prog w = .ok (.string (strOf zs)) w := by
  rw [run_convert_bytes_string w _ _ _ a n c Tryz.underlying71 Tryz.underlying5 Tryz.underlying9]
  obtain ⟨h1, h2, h3, h30, h4, h5⟩ := h
  cases a with
  | none =>
    have hm : n = 0 := by
      rcases Nat.eq_zero_or_pos n with h | h
      · exact h
      · obtain ⟨b, off, e, _⟩ := h5 h
        cases e
    have hz : zs = [] := List.eq_nil_of_length_eq_zero (by omega)
    subst hz
    rfl
  | some x =>
    rw [run_bytesToString w x n c zs, strOf_foldl]
    have hl := run_firstCells_some (P := Tryz.prog) w 1 n x n c (zs.map (Value.int .u8)) (by simp [h1]) (by
        intro j u hu
        have hj : j < zs.length := by
          have := (List.getElem?_eq_some_iff.1 hu).1
          simpa using this
        obtain ⟨b, off, e, _, hc⟩ := h5 (by omega)
        cases e
        have := hc j (by omega)
        rw [Addr.add_lit, this]
        simp [hj] at hu
        simp [hj, hu])
    simpa [Builtin.firstCells] using hl
end Go.Proofs.YtjddkofpfmjojaaGreatDoor
/-
  What both Quotes answer, for every string.
-/
namespace Go.Proofs.YtjddkofpfmjojaaGreatDoor
open Go.RowKit

def isPl (z : Int) : Bool := decide (33 ≤ z) && decide (z ≤ 126) && !(z == 34) && !(z == 37)
def hexD (d : Int) : Int := if d < 10 then 48 + d else 55 + d
/-- The quoted form of a byte. -/
def qb (z : Int) : List Int := if isPl z then [z] else [37, hexD (z / 16), hexD (z % 16)]
def qs (zs : List Int) : List Int := zs.flatMap qb
def qt (s : ByteArray) : ByteArray := if s.size ≤ 4096 then strOf (34 :: qs (bytesOf s) ++ [34]) else ByteArray.empty

theorem isPl_iff (z : Int) : isPl z = true ↔ 33 ≤ z ∧ z ≤ 126 ∧ z ≠ 34 ∧ z ≠ 37 := by
  simp [isPl, and_assoc]
theorem hexD_byte (d : Int) (h0 : 0 ≤ d) (h1 : d ≤ 15) : 0 ≤ hexD d ∧ hexD d ≤ 255 := by unfold hexD; split <;> omega
theorem qb_len (z : Int) : (qb z).length ≤ 3 := by unfold qb; split <;> simp
theorem qb_byte (z : Int) (h0 : 0 ≤ z) (h1 : z ≤ 255) : ∀ x ∈ qb z, 0 ≤ x ∧ x ≤ 255 := by
  intro x hx
  unfold qb at hx
  split at hx
  · simp at hx; omega
  · simp at hx
    have a := hexD_byte (z / 16) (by omega) (by omega)
    have b := hexD_byte (z % 16) (by omega) (by omega)
    rcases hx with e | e | e <;> omega
theorem qs_len (zs : List Int) : (qs zs).length ≤ 3 * zs.length := by
  induction zs with
  | nil => simp [qs]
  | cons z zs ih =>
    have := qb_len z
    simp only [qs, List.flatMap_cons, List.length_append, List.length_cons] at ih ⊢
    omega
theorem qs_byte (zs : List Int) (h : ∀ z ∈ zs, 0 ≤ z ∧ z ≤ 255) : ∀ x ∈ qs zs, 0 ≤ x ∧ x ≤ 255 := by
  intro x hx
  obtain ⟨z, hz, hx⟩ := List.mem_flatMap.1 hx
  exact qb_byte z (h z hz).1 (h z hz).2 x hx
theorem bytes_take (s : ByteArray) (k : Nat) (h : k < s.size) : (bytesOf s).take (k + 1) = (bytesOf s).take k ++ [(s[k].toNat : Int)] := by
  have h' : k < (bytesOf s).length := by rw [bytesOf_len]; exact h
  rw [List.take_succ_eq_append_getElem h']
  congr 2
  simp [bytesOf]
  rfl
theorem qs_take (s : ByteArray) (k : Nat) (h : k < s.size) : qs ((bytesOf s).take (k + 1)) = qs ((bytesOf s).take k) ++ qb (s[k].toNat : Int) := by
  rw [bytes_take s k h]
  simp [qs]

theorem ow_one (w : World) (B : Nat) (z : Int) (hB : B ≤ w.heap.size) : Ob (w.alloc (.cells #[.int .u8 z] 5)) B (.slice (some ⟨w.heap.size, 0, none⟩) 1 1) [z] :=
  ⟨rfl, .inr ⟨w.heap.size, 1, _, rfl, hB, heap_alloc_new w _, Nat.le_refl _, by decide, rfl, rfl⟩⟩
theorem rd_three (w : World) (x y z : Int) (hx : 0 ≤ x ∧ x ≤ 255) (hy : 0 ≤ y ∧ y ≤ 255) (hz : 0 ≤ z ∧ z ≤ 255) : Rd (w.alloc (.cells #[.int .u8 x, .int .u8 y, .int .u8 z] 5)) (some ⟨w.heap.size, 0, none⟩) 3 3 [x, y, z] := by
  refine ⟨rfl, Nat.le_refl _, by omega, by omega, fun i => ?_, fun _ => ⟨w.heap.size, 0, rfl, by simp, fun i hi => ?_⟩⟩
  · match i with
    | 0 => exact hx
    | 1 => exact hy
    | 2 => exact hz
    | n + 3 => simp
  · rw [World.cell?_alloc_at (hn := rfl)]
    match i, hi with
    | 0, _ => rfl
    | 1, _ => rfl
    | 2, _ => rfl

set_option maxHeartbeats 400000 in
theorem digit_any (d : Int) (w : World) (h0 : 0 ≤ d) (h1 : d ≤ 15) :
    Calls Tryz.prog 62 #[.int .i64 d] w fun e w' => e = .returned (.int .u8 (hexD d)) ∧ w = w' := by
  by_cases h : d < 10
  · have HH : Hid (hexD d = 48 + d) := by show hexD d = 48 + d; unfold hexD; exact if_pos h
    go_enter Tryz.func62, Tryz.ntmps62
    go_wp2
    go_ret
    exact ⟨by rw [HH.out]; rfl, rfl⟩
  · have HH : Hid (hexD d = 65 + d - 10) := by show hexD d = 65 + d - 10; unfold hexD; rw [if_neg h]; omega
    go_enter Tryz.func62, Tryz.ntmps62
    go_wp2
    go_ret
    exact ⟨by rw [HH.out]; rfl, rfl⟩

set_option maxHeartbeats 400000 in
theorem isPlain_any (z : Int) (w : World) : Calls Tryz.prog 98 #[.int .u8 z] w fun e w' => e = .returned (.bool (isPl z)) ∧ w = w' := by
  by_cases h0 : 33 ≤ z
  · by_cases h1 : z ≤ 126
    · by_cases h2 : z = 34
      · subst h2
        go_enter Tryz.func98, Tryz.ntmps98
        go_wp2
        go_ret
        exact ⟨rfl, rfl⟩
      · by_cases h3 : z = 37
        · subst h3
          go_enter Tryz.func98, Tryz.ntmps98
          go_wp2
          go_ret
          exact ⟨rfl, rfl⟩
        · have HP : Hid (isPl z = true) := (isPl_iff z).2 ⟨h0, h1, h2, h3⟩
          have g2 : (z != 34) = true := by simp [h2]
          have g3 : (z != 37) = true := by simp [h3]
          clear h2 h3
          go_enter Tryz.func98, Tryz.ntmps98
          go_wp2
          go_ret
          exact ⟨by rw [HP.out]; rfl, rfl⟩
    · have HP : Hid (isPl z = false) := by
        show isPl z = false
        rw [← Bool.not_eq_true, isPl_iff]; omega
      go_enter Tryz.func98, Tryz.ntmps98
      go_wp2
      go_ret
      exact ⟨by rw [HP.out]; rfl, rfl⟩
  · have HP : Hid (isPl z = false) := by
      show isPl z = false
      rw [← Bool.not_eq_true, isPl_iff]; omega
    go_enter Tryz.func98, Tryz.ntmps98
    go_wp2
    go_ret
    exact ⟨by rw [HP.out]; rfl, rfl⟩

set_option maxHeartbeats 1000000 in
theorem specQuote_any (s : ByteArray) (w : World) (hs : s.size ≤ 1048576) :
    Calls Tryz.prog 50 #[.string s] w fun e w' => e = .returned (.string (qt s)) ∧ Below w.heap.size w w' := by
  by_cases hbig : 4096 < s.size
  · have HQ : Hid (qt s = ByteArray.empty) := by show qt s = ByteArray.empty; unfold qt; exact if_neg (by omega)
    have hb' : (4096 : Int) < (s.size : Int) := by omega
    go_enter Tryz.func50, Tryz.ntmps50
    go_wp2
    go_ret
    exact ⟨by rw [HQ.out]; rfl, Below.refl _ _⟩
  · have HQ : Hid (qt s = strOf (34 :: qs (bytesOf s) ++ [34])) := by show qt s = strOf (34 :: qs (bytesOf s) ++ [34]); unfold qt; exact if_pos (by omega)
    have hb' : ¬ (4096 : Int) < (s.size : Int) := by omega
    have HO0 := hid (ow_one w w.heap.size 34 (Nat.le_refl _))
    go_enter Tryz.func50, Tryz.ntmps50
    go_wp2
    go_loopw [3, 4] (fun v i wr => ∃ k : Nat, k ≤ s.size ∧ i = .int .i64 k ∧ Ob wr w.heap.size v (34 :: qs ((bytesOf s).take k)) ∧ Below w.heap.size w wr) (fun _ i _ => s.size - (intOf i).toNat)
    case atStart => exact ⟨0, Nat.zero_le _, rfl, HO0.out, (Below.refl _ _).alloc (Nat.le_refl _) _⟩
    case round =>
      obtain ⟨k, hk, rfl, hown, hbel⟩ := hrel
      have HO := hid hown
      have HB := hid hbel
      have hsz := hbel.size
      have HL : Hid ((34 :: qs ((bytesOf s).take k)).length ≤ 12290) := by
        have := qs_len ((bytesOf s).take k)
        have := List.length_take_le k (bytesOf s)
        show (34 :: qs ((bytesOf s).take k)).length ≤ 12290
        simp only [List.length_cons]; omega
      clear hown hbel
      by_cases hlt : k < s.size
      · have HT := hid (qs_take s k hlt)
        have hlt' : (k : Int) < (s.size : Int) := by omega
        have hz0 : (0 : Int) ≤ (s[k].toNat : Int) := by omega
        have hz1 : (s[k].toNat : Int) ≤ 255 := by have := s[k].toNat_lt; omega
        cases hpl : isPl (s[k].toNat : Int) with
        | true =>
          have HT2 : Hid (qs ((bytesOf s).take (k + 1)) = qs ((bytesOf s).take k) ++ [(s[k].toNat : Int)]) := by
            have := HT.out
            rw [this]; unfold qb; rw [if_pos hpl]; rfl
          obtain ⟨p0, p1, p2, p3⟩ := (isPl_iff _).1 hpl
          have g2 : ((s[k].toNat : Int) != 34) = true := by simp only [bne_iff_ne]; exact p2
          have g3 : ((s[k].toNat : Int) != 37) = true := by simp only [bne_iff_ne]; exact p3
          clear p2 p3 hpl
          go_wp2_with (at_builtin; refine wpList_append_rd rfl _ _ rfl w.heap.size _ (34 :: qs ((bytesOf s).take k)) rfl (HO.out.alloc _) _ _ _ [(s[k].toNat : Int)] rfl ?src ?b ?base ?_)
          case src => exact rd_one wr _ hz0 hz1
          case b => have := HL.out; simp only [List.length_cons, List.length_nil] at this ⊢; omega
          case base => simp; omega
          intro v2 w2 hown2 hg2
          have hb2 : Below w.heap.size w w2 := Ob.below (HO.out.alloc _) (HB.out.alloc hsz _) (by simp; omega) hg2
          have HO2 : Hid (Ob w2 w.heap.size v2 (34 :: qs ((bytesOf s).take (k + 1)))) := by
            show Ob w2 w.heap.size v2 (34 :: qs ((bytesOf s).take (k + 1)))
            rw [HT2.out]; exact hown2
          clear hown2 hg2
          go_wp2
          go_roundw
          case rel => exact ⟨k + 1, by omega, by go_num, HO2.out, hb2⟩
          case measure => simp [intOf]; omega
        | false =>
          have HT2 : Hid (qs ((bytesOf s).take (k + 1)) = qs ((bytesOf s).take k) ++ [37, hexD ((s[k].toNat : Int) / 16), hexD ((s[k].toNat : Int) % 16)]) := by
            have := HT.out
            rw [this]; unfold qb; rw [hpl]; rfl
          have hnp : ¬ (33 ≤ (s[k].toNat : Int) ∧ (s[k].toNat : Int) ≤ 126 ∧ (s[k].toNat : Int) ≠ 34 ∧ (s[k].toNat : Int) ≠ 37) := by
            intro h; rw [(isPl_iff _).2 h] at hpl; cases hpl
          have hcase : (s[k].toNat : Int) < 33 ∨ (33 ≤ (s[k].toNat : Int) ∧ 126 < (s[k].toNat : Int)) ∨ ((33 ≤ (s[k].toNat : Int) ∧ (s[k].toNat : Int) ≤ 126) ∧ ((s[k].toNat : Int) != 34) = false) ∨
              ((33 ≤ (s[k].toNat : Int) ∧ (s[k].toNat : Int) ≤ 126) ∧ ((s[k].toNat : Int) != 34) = true ∧ ((s[k].toNat : Int) != 37) = false) := by
            simp only [bne_iff_ne, bne_eq_false_iff_eq]
            omega
          clear hnp hpl
          rcases hcase with h1 | ⟨h1, h2⟩ | ⟨⟨h1, h2⟩, h3⟩ | ⟨⟨h1, h2⟩, h3, h4⟩
          all_goals
            go_wp2_with fail
            refine (digit_any ((s[k].toNat : Int) / 16) _ (by omega) (by omega)).mono ?_
            rintro e w' ⟨rfl, rfl⟩
            go_wp2_with fail
            refine (digit_any ((s[k].toNat : Int) % 16) _ (by omega) (by omega)).mono ?_
            rintro e w' ⟨rfl, rfl⟩
            go_wp2_with (at_builtin; refine wpList_append_rd rfl _ _ rfl w.heap.size _ (34 :: qs ((bytesOf s).take k)) rfl (HO.out.alloc _) _ _ _ [37, hexD ((s[k].toNat : Int) / 16), hexD ((s[k].toNat : Int) % 16)] rfl ?src ?b ?base ?_)
            case src => exact rd_three wr _ _ _ (by omega) (hexD_byte _ (by omega) (by omega)) (hexD_byte _ (by omega) (by omega))
            case b => have := HL.out; simp only [List.length_cons, List.length_nil] at this ⊢; omega
            case base => simp; omega
            intro v2 w2 hown2 hg2
            have hb2 : Below w.heap.size w w2 := Ob.below (HO.out.alloc _) (HB.out.alloc hsz _) (by simp; omega) hg2
            have HO2 : Hid (Ob w2 w.heap.size v2 (34 :: qs ((bytesOf s).take (k + 1)))) := by
              show Ob w2 w.heap.size v2 (34 :: qs ((bytesOf s).take (k + 1)))
              rw [HT2.out]; exact hown2
            clear hown2 hg2
            go_wp2
            go_roundw
            case rel => exact ⟨k + 1, by omega, by go_num, HO2.out, hb2⟩
            case measure => simp [intOf]; omega
      · have hlt' : ¬ (k : Int) < (s.size : Int) := by omega
        have HT : Hid ((bytesOf s).take k = bytesOf s) := List.take_of_length_le (by rw [bytesOf_len]; omega)
        go_wp2_with (at_builtin; refine wpList_append_rd rfl _ _ rfl w.heap.size _ (34 :: qs ((bytesOf s).take k)) rfl (HO.out.alloc _) _ _ _ [34] rfl ?src ?b ?base ?_)
        case src => exact rd_one wr _ (by omega) (by omega)
        case b => have := HL.out; simp only [List.length_cons] at this ⊢; omega
        case base => omega
        intro v2 w2 hown2 hg2
        have hb2 : Below w.heap.size w w2 := Ob.below (HO.out.alloc _) (HB.out.alloc hsz _) (by simp; omega) hg2
        have hown3 : Ob w2 w.heap.size v2 (34 :: qs (bytesOf s) ++ [34]) := by
          have := hown2; rw [HT.out] at this; exact this
        have hbyte : ∀ z ∈ (34 :: qs (bytesOf s) ++ [34] : List Int), 0 ≤ z ∧ z ≤ 255 := by
          intro z hz
          simp only [List.cons_append, List.mem_cons, List.mem_append] at hz
          rcases hz with e | e | e
          · omega
          · exact qs_byte _ (bytesOf_byte s) z e
          · simp at e; omega
        obtain ⟨a3, c3, hv3, hrd3, _⟩ := hown3.rd (byte_at hbyte) (by have := qs_len (bytesOf s); have := bytesOf_len s; simp; omega)
        have hst := run_str hrd3
        generalize hL3 : (34 :: qs (bytesOf s) ++ [34]).length = L3 at hv3 hst
        clear hown2 hg2 hown3 hbyte hrd3 hL3
        rw [hv3]
        clear hv3
        go_wp2
        go_ret
        exact ⟨by rw [HQ.out]; rfl, hb2⟩
end Go.Proofs.YtjddkofpfmjojaaGreatDoor
/-
  Plain mathematics: what is read of a quoted text, and that it is what was written.
-/
namespace Go.Proofs.YtjddkofpfmjojaaGreatDoor

/-- The number of a digit, 16 where it is none. -/
def halfV (z : Int) : Int := if 48 ≤ z ∧ z ≤ 57 then z - 48 else if 65 ≤ z ∧ z ≤ 70 then z - 55 else 16
/-- The number of a digit, -1 where it is none. -/
def hexV (z : Int) : Int := if 48 ≤ z ∧ z ≤ 57 then z - 48 else if 65 ≤ z ∧ z ≤ 70 then z - 55 else -1
theorem half_hex (d : Int) (h0 : 0 ≤ d) (h1 : d ≤ 15) : halfV (hexD d) = d ∧ hexV (hexD d) = d := by
  unfold hexD halfV hexV
  by_cases h : d < 10
  · simp only [h, if_true]; constructor <;> rw [if_pos (by omega)] <;> omega
  · simp only [h, if_false]; constructor <;> rw [if_neg (by omega), if_pos (by omega)] <;> omega
theorem hex_of (z : Int) (h : 0 ≤ hexV z) : hexD (hexV z) = z ∧ hexV z ≤ 15 := by
  unfold hexV at *
  by_cases h1 : 48 ≤ z ∧ z ≤ 57
  · rw [if_pos h1] at h ⊢; unfold hexD; rw [if_pos (by omega)]; omega
  · rw [if_neg h1] at h ⊢
    by_cases h2 : 65 ≤ z ∧ z ≤ 70
    · rw [if_pos h2] at h ⊢; unfold hexD; rw [if_neg (by omega)]; omega
    · rw [if_neg h2] at h; omega
theorem half_range (z : Int) : 0 ≤ halfV z ∧ halfV z ≤ 16 := by unfold halfV; split <;> (try split) <;> omega

/-- The next byte that is read off a quoted text, and how many bytes it takes. -/
def us (L : List Int) : Option Int × Nat :=
  if isPl (L[0]?.getD 0) then (some (L[0]?.getD 0), 1)
  else if L[0]?.getD 0 ≠ 37 ∨ L.length < 3 then (none, L.length)
  else if hexV (L[1]?.getD 0) < 0 ∨ hexV (L[2]?.getD 0) < 0 ∨ isPl (hexV (L[1]?.getD 0) * 16 + hexV (L[2]?.getD 0)) = true then (none, L.length)
  else (some (hexV (L[1]?.getD 0) * 16 + hexV (L[2]?.getD 0)), 3)
/-- All that is read off it, by f steps at most. -/
def dec : Nat → List Int → Option (List Int)
  | 0, _ => none
  | f + 1, L => if L = [] then some [] else match (us L).1 with
    | none => none
    | some b => (dec f (L.drop (us L).2)).map (b :: ·)
theorem us_len (L : List Int) (h : L ≠ []) : 1 ≤ (us L).2 ∧ (us L).2 ≤ L.length := by
  have hl : 1 ≤ L.length := by
    cases L with
    | nil => exact absurd rfl h
    | cons _ _ => simp
  unfold us
  split
  · exact ⟨Nat.le_refl _, hl⟩
  · split
    · exact ⟨hl, Nat.le_refl _⟩
    · rename_i h2
      split
      · exact ⟨hl, Nat.le_refl _⟩
      · exact ⟨by omega, by show 3 ≤ L.length; omega⟩
theorem us_byte (L : List Int) (hb : ∀ z ∈ L, 0 ≤ z ∧ z ≤ 255) (b : Int) (h : (us L).1 = some b) : 0 ≤ b ∧ b ≤ 255 := by
  have h0 := byte_at hb 0
  unfold us at h
  split at h
  · cases h; exact h0
  · split at h
    · cases h
    · split at h
      · cases h
      · rename_i h3
        have a1 := hex_of (L[1]?.getD 0) (by omega)
        have a2 := hex_of (L[2]?.getD 0) (by omega)
        cases h
        omega
theorem dec_nil (f : Nat) : dec (f + 1) [] = some [] := by simp [dec]
theorem dec_step (f : Nat) (L : List Int) (h : L ≠ []) : dec (f + 1) L = match (us L).1 with | none => none | some b => (dec f (L.drop (us L).2)).map (b :: ·) := by
  simp [dec, h]
theorem dec_fuel : ∀ (f g : Nat) (L : List Int), L.length < f → L.length < g → dec f L = dec g L := by
  intro f
  induction f with
  | zero => intro g L h; omega
  | succ f ih =>
    intro g L hf hg
    cases g with
    | zero => omega
    | succ g =>
      by_cases h : L = []
      · subst h; rw [dec_nil, dec_nil]
      · rw [dec_step f L h, dec_step g L h]
        have hl := us_len L h
        cases (us L).1 with
        | none => rfl
        | some b =>
          have := ih g (L.drop (us L).2) (by rw [List.length_drop]; omega) (by rw [List.length_drop]; omega)
          simp only [this]
/-- What is read of the quoted form of a byte. -/
theorem us_qb (b : Int) (h0 : 0 ≤ b) (h1 : b ≤ 255) (r : List Int) : us (qb b ++ r) = (some b, (qb b).length) := by
  by_cases hp : isPl b = true
  · have e : qb b = [b] := by unfold qb; rw [if_pos hp]
    rw [e]
    unfold us
    simp [hp]
  · have e : qb b = [37, hexD (b / 16), hexD (b % 16)] := by unfold qb; rw [if_neg hp]
    rw [e]
    have n37 : isPl 37 = false := by decide
    have a1 := (half_hex (b / 16) (by omega) (by omega)).2
    have a2 := (half_hex (b % 16) (by omega) (by omega)).2
    unfold us
    have z0 : ([37, hexD (b / 16), hexD (b % 16)] ++ r)[0]?.getD 0 = 37 := rfl
    have z1 : ([37, hexD (b / 16), hexD (b % 16)] ++ r)[1]?.getD 0 = hexD (b / 16) := rfl
    have z2 : ([37, hexD (b / 16), hexD (b % 16)] ++ r)[2]?.getD 0 = hexD (b % 16) := rfl
    have hv : b / 16 * 16 + b % 16 = b := by omega
    rw [z0, z1, z2, a1, a2, hv, n37]
    rw [if_neg (by simp), if_neg (by simp), if_neg (by simp [hp]; omega)]
    rfl
theorem drop_qb (b : Int) (r : List Int) : (qb b ++ r).drop (qb b).length = r := List.drop_left
theorem qb_ne (b : Int) (r : List Int) : qb b ++ r ≠ [] := by unfold qb; split <;> simp
theorem qb_pos (b : Int) : 1 ≤ (qb b).length := by unfold qb; split <;> simp
theorem dec_qs : ∀ (o : List Int), (∀ z ∈ o, 0 ≤ z ∧ z ≤ 255) → ∀ f, (qs o).length < f → dec f (qs o) = some o := by
  intro o
  induction o with
  | nil =>
    intro _ f hf
    cases f with
    | zero => simp at hf
    | succ f => exact dec_nil f
  | cons b o ih =>
    intro hb f hf
    have hbb := hb b (List.mem_cons_self)
    have e : qs (b :: o) = qb b ++ qs o := by simp [qs]
    rw [e] at hf ⊢
    rw [List.length_append] at hf
    have := qb_pos b
    cases f with
    | zero => omega
    | succ f =>
      rw [dec_step f _ (qb_ne b _), us_qb b hbb.1 hbb.2, drop_qb, ih (fun z hz => hb z (List.mem_cons_of_mem _ hz)) f (by omega)]
      rfl
/-- What is read was written so. -/
theorem us_sound (L : List Int) (h : L ≠ []) (b : Int) (hb : (us L).1 = some b) : L = qb b ++ L.drop (us L).2 := by
  unfold us at hb ⊢
  split at hb
  · rename_i hp
    rw [if_pos hp]
    cases L with
    | nil => exact absurd rfl h
    | cons z r =>
      simp at hp hb
      subst hb
      unfold qb
      rw [if_pos hp]
      rfl
  · rename_i hp
    rw [if_neg hp]
    split at hb
    · cases hb
    · rename_i h2
      rw [if_neg h2]
      split at hb
      · cases hb
      · rename_i h3
        rw [if_neg h3]
        match L, h2, h3, hb with
        | z :: x :: y :: r, h2, h3, hb =>
          have e0 : (z :: x :: y :: r)[0]?.getD 0 = z := rfl
          have e1 : (z :: x :: y :: r)[1]?.getD 0 = x := rfl
          have e2 : (z :: x :: y :: r)[2]?.getD 0 = y := rfl
          rw [e0] at h2
          rw [e1, e2] at h3 hb
          have a1 := hex_of x (by omega)
          have a2 := hex_of y (by omega)
          cases hb
          have hnp : ¬ isPl (hexV x * 16 + hexV y) = true := fun hh => h3 (.inr (.inr hh))
          have q1 : (hexV x * 16 + hexV y) / 16 = hexV x := by omega
          have q2 : (hexV x * 16 + hexV y) % 16 = hexV y := by omega
          unfold qb
          rw [if_neg hnp, q1, q2, a1.1, a2.1]
          have : z = 37 := by
            rcases Decidable.em (z = 37) with e | e
            · exact e
            · exact absurd (.inl e) h2
          rw [this]
          rfl
        | [], h2, _, _ => exact absurd (.inr (by simp)) h2
        | [_], h2, _, _ => exact absurd (.inr (by simp)) h2
        | [_, _], h2, _, _ => exact absurd (.inr (by simp)) h2
theorem dec_sound : ∀ (f : Nat) (L o : List Int), dec f L = some o → L = qs o := by
  intro f
  induction f with
  | zero => intro L o h; simp [dec] at h
  | succ f ih =>
    intro L o h
    by_cases hl : L = []
    · subst hl
      rw [dec_nil] at h
      cases h
      rfl
    · rw [dec_step f L hl] at h
      cases hu : (us L).1 with
      | none => rw [hu] at h; cases h
      | some b =>
        rw [hu] at h
        simp only [Option.map_eq_some_iff] at h
        obtain ⟨o', h1, rfl⟩ := h
        have := ih _ _ h1
        rw [us_sound L hl b hu, this]
        simp [qs]
theorem dec_byte : ∀ (f : Nat) (L o : List Int), (∀ z ∈ L, 0 ≤ z ∧ z ≤ 255) → dec f L = some o → ∀ z ∈ o, 0 ≤ z ∧ z ≤ 255 := by
  intro f
  induction f with
  | zero => intro L o _ h; simp [dec] at h
  | succ f ih =>
    intro L o hb h
    by_cases hl : L = []
    · subst hl
      rw [dec_nil] at h
      cases h
      simp
    · rw [dec_step f L hl] at h
      cases hu : (us L).1 with
      | none => rw [hu] at h; cases h
      | some b =>
        rw [hu] at h
        simp only [Option.map_eq_some_iff] at h
        obtain ⟨o', h1, rfl⟩ := h
        intro z hz
        rcases List.mem_cons.1 hz with e | e
        · subst e; exact us_byte L hb _ hu
        · exact ih _ o' (fun z hz => hb z (List.mem_of_mem_drop hz)) h1 z e

/-- What the model reads, whatever the text: L is what is left, with the last mark. -/
def sd : List Int → List Int
  | [] => []
  | [_] => []
  | [z, _] => [z]
  | z :: h :: l :: r => if z = 37 then (halfV h % 16 * 16 + halfV l % 16) :: sd r else z :: sd (h :: l :: r)
theorem sd_byte : ∀ (n : Nat) (L : List Int), L.length ≤ n → (∀ z ∈ L, 0 ≤ z ∧ z ≤ 255) → ∀ z ∈ sd L, 0 ≤ z ∧ z ≤ 255 := by
  intro n
  induction n with
  | zero =>
    intro L hl _ z hz
    have : L = [] := List.eq_nil_of_length_eq_zero (by omega)
    subst this
    simp [sd] at hz
  | succ n ih =>
    intro L hl hb z hz
    match L, hl, hb, hz with
    | [], _, _, hz => simp [sd] at hz
    | [_], _, _, hz => simp [sd] at hz
    | [x, _], _, hb, hz => simp [sd] at hz; subst hz; exact hb z List.mem_cons_self
    | x :: h :: l :: r, hl, hb, hz =>
      simp only [sd] at hz
      split at hz
      · rcases List.mem_cons.1 hz with e | e
        · have a := half_range h
          have b := half_range l
          omega
        · exact ih r (by simp at hl; omega) (fun z hz => hb z (by simp [hz])) z e
      · rcases List.mem_cons.1 hz with e | e
        · subst e; exact hb z List.mem_cons_self
        · exact ih (h :: l :: r) (by simp at hl ⊢; omega) (fun z hz => hb z (List.mem_cons_of_mem _ hz)) z e
theorem sd_qs : ∀ (o : List Int), (∀ z ∈ o, 0 ≤ z ∧ z ≤ 255) → sd (qs o ++ [34]) = o := by
  intro o
  induction o with
  | nil => intro _; rfl
  | cons b o ih =>
    intro hb
    have hbb := hb b List.mem_cons_self
    have iho := ih (fun z hz => hb z (List.mem_cons_of_mem _ hz))
    have e : qs (b :: o) = qb b ++ qs o := by simp [qs]
    rw [e, List.append_assoc]
    by_cases hp : isPl b = true
    · have eb : qb b = [b] := by unfold qb; rw [if_pos hp]
      have hne : b ≠ 37 := ((isPl_iff b).1 hp).2.2.2
      rw [eb]
      cases ho : qs o ++ [34] with
      | nil => simp at ho
      | cons x r =>
        rw [ho] at iho
        cases r with
        | nil =>
          simp [sd] at iho
          show sd [b, x] = b :: o
          rw [iho]; rfl
        | cons y r =>
          show sd (b :: x :: y :: r) = b :: o
          simp only [sd]
          rw [if_neg hne]
          exact congrArg (b :: ·) iho
    · have eb : qb b = [37, hexD (b / 16), hexD (b % 16)] := by unfold qb; rw [if_neg hp]
      rw [eb]
      show sd (37 :: hexD (b / 16) :: hexD (b % 16) :: (qs o ++ [34])) = b :: o
      simp only [sd]
      rw [if_pos trivial, iho, (half_hex (b / 16) (by omega) (by omega)).1, (half_hex (b % 16) (by omega) (by omega)).1]
      congr 1
      omega

theorem bytes_str (o : List Int) (hb : ∀ z ∈ o, 0 ≤ z ∧ z ≤ 255) : bytesOf (strOf o) = o := by
  unfold bytesOf strOf
  simp only [List.map_map]
  have : ∀ z ∈ o, ((fun b : UInt8 => (b.toNat : Int)) ∘ fun z : Int => UInt8.ofNat z.toNat) z = z := by
    intro z hz
    have := hb z hz
    simp only [Function.comp, UInt8.toNat_ofNat']
    omega
  rw [List.map_congr_left this]
  simp
theorem str_bytes (s : ByteArray) : strOf (bytesOf s) = s := by
  unfold bytesOf strOf
  simp [List.map_map, Function.comp_def]
theorem str_size (o : List Int) : (strOf o).size = o.length := by
  show (strOf o).data.size = o.length
  simp [strOf]

/-- What comes of a writer that holds zs when all of L is read into it. -/
def comb : Option (List Int) → List Int → Option (List Int)
  | none, _ => none
  | some zs, L => match dec (L.length + 1) L with
    | none => none
    | some o => if (zs ++ o).length ≤ 4096 then some (zs ++ o) else none
theorem comb_none (L : List Int) : comb none L = none := rfl
theorem comb_nil (zs : List Int) (h : zs.length ≤ 4096) : comb (some zs) [] = some zs := by
  show (match dec 1 [] with | none => none | some o => if (zs ++ o).length ≤ 4096 then some (zs ++ o) else none) = some zs
  rw [dec_nil]
  simp [h]
theorem comb_bad (zs L : List Int) (h : L ≠ []) (hu : (us L).1 = none) : comb (some zs) L = none := by
  show (match dec (L.length + 1) L with | none => none | some o => if (zs ++ o).length ≤ 4096 then some (zs ++ o) else none) = none
  rw [dec_step _ L h, hu]
theorem comb_good (zs L : List Int) (h : L ≠ []) (b : Int) (hu : (us L).1 = some b) : comb (some zs) L = comb (addSt 4096 (some zs) [b]) (L.drop (us L).2) := by
  have hl := us_len L h
  have e1 : comb (some zs) L = match dec (L.length + 1) L with | none => none | some o => if (zs ++ o).length ≤ 4096 then some (zs ++ o) else none := rfl
  have e2 : addSt 4096 (some zs) [b] = if zs.length + 1 ≤ 4096 then some (zs ++ [b]) else none := rfl
  rw [e1, e2, dec_step _ L h, hu, dec_fuel L.length ((L.drop (us L).2).length + 1) (L.drop (us L).2) (by rw [List.length_drop]; omega) (by omega)]
  by_cases hz : zs.length + 1 ≤ 4096
  · rw [if_pos hz]
    have e3 : comb (some (zs ++ [b])) (L.drop (us L).2) = match dec ((L.drop (us L).2).length + 1) (L.drop (us L).2) with | none => none | some o => if (zs ++ [b] ++ o).length ≤ 4096 then some (zs ++ [b] ++ o) else none := rfl
    rw [e3]
    cases dec ((L.drop (us L).2).length + 1) (L.drop (us L).2) with
    | none => rfl
    | some o => simp
  · rw [if_neg hz, comb_none]
    cases dec ((L.drop (us L).2).length + 1) (L.drop (us L).2) with
    | none => rfl
    | some o =>
      simp only [Option.map_some]
      rw [if_neg (by simp; omega)]

/-- What stands between the marks. -/
def mid (s : ByteArray) : List Int := ((bytesOf s).take (s.size - 1)).drop 1
/-- What Unquote answers. -/
def uq (s : ByteArray) : Option (List Int) := if 2 ≤ s.size ∧ (bytesOf s)[0]?.getD 0 = 34 ∧ (bytesOf s)[s.size - 1]?.getD 0 = 34 then comb (some []) (mid s) else none

theorem split_marks (L : List Int) (h2 : 2 ≤ L.length) (h0 : L[0]?.getD 0 = 34) (h1 : L[L.length - 1]?.getD 0 = 34) : L = 34 :: (L.take (L.length - 1)).drop 1 ++ [34] := by
  cases L with
  | nil => simp at h2
  | cons z r =>
    simp at h0 h1 h2
    subst h0
    have hr : r ≠ [] := by
      intro e; subst e; simp at h2
    have hl : 1 ≤ r.length := by cases r with | nil => exact absurd rfl hr | cons _ _ => simp
    have e : (34 :: r).take ((34 :: r).length - 1) = 34 :: r.take (r.length - 1) := by
      rw [List.length_cons, Nat.add_sub_cancel]
      obtain ⟨k, hk⟩ : ∃ k, r.length = k + 1 := ⟨r.length - 1, by omega⟩
      rw [hk]; rfl
    rw [e]
    have e2 : r.take (r.length - 1) ++ [34] = r := by
      have h3 : r[r.length - 1]? = some r[r.length - 1] := List.getElem?_eq_getElem (by omega)
      have h4 : (34 :: r)[r.length]? = r[r.length - 1]? := by
        obtain ⟨k, hk⟩ : ∃ k, r.length = k + 1 := ⟨r.length - 1, by omega⟩
        rw [hk]; rfl
      have h5 : r[r.length - 1] = 34 := by
        have : (34 :: r)[r.length]?.getD 0 = 34 := by
          simpa using h1
        rw [h4, h3] at this
        exact this
      have h6 := List.take_succ_eq_append_getElem (l := r) (i := r.length - 1) (by omega)
      rw [h5, show r.length - 1 + 1 = r.length from by omega, List.take_length] at h6
      exact h6.symm
    show 34 :: r = 34 :: (r.take (r.length - 1) ++ [34])
    rw [e2]

theorem uq_of_quote (s : ByteArray) (o : List Int) (hb : ∀ z ∈ o, 0 ≤ z ∧ z ≤ 255) (hl : o.length ≤ 4096) (h : bytesOf s = 34 :: qs o ++ [34]) : uq s = some o := by
  have hlen : s.size = (qs o).length + 2 := by rw [← bytesOf_len, h]; simp
  have hm : mid s = qs o := by
    unfold mid
    rw [h, hlen]
    have : (34 :: qs o ++ [34]).take ((qs o).length + 2 - 1) = 34 :: qs o := by
      rw [show (qs o).length + 2 - 1 = (34 :: qs o).length from by simp]
      exact List.take_left
    rw [this]
    rfl
  have h0 : (bytesOf s)[0]?.getD 0 = 34 := by rw [h]; rfl
  have h1 : (bytesOf s)[s.size - 1]?.getD 0 = 34 := by
    rw [h, hlen, show (qs o).length + 2 - 1 = (34 :: qs o).length from by simp, List.getElem?_append_right (Nat.le_refl _)]
    simp
  unfold uq
  rw [if_pos ⟨by omega, h0, h1⟩, hm]
  show (match dec ((qs o).length + 1) (qs o) with | none => none | some o => if ([] ++ o).length ≤ 4096 then some ([] ++ o) else none) = some o
  rw [dec_qs o hb _ (by omega)]
  simp [hl]
theorem quote_of_uq (s : ByteArray) (o : List Int) (h : uq s = some o) : bytesOf s = 34 :: qs o ++ [34] ∧ (∀ z ∈ o, 0 ≤ z ∧ z ≤ 255) ∧ o.length ≤ 4096 := by
  unfold uq at h
  split at h
  · rename_i hc
    obtain ⟨h2, h0, h1⟩ := hc
    have hs := split_marks (bytesOf s) (by rw [bytesOf_len]; exact h2) h0 (by rw [bytesOf_len]; exact h1)
    rw [bytesOf_len] at hs
    have e1 : comb (some []) (mid s) = match dec ((mid s).length + 1) (mid s) with | none => none | some o => if ([] ++ o).length ≤ 4096 then some ([] ++ o) else none := rfl
    rw [e1] at h
    cases hd : dec ((mid s).length + 1) (mid s) with
    | none => rw [hd] at h; cases h
    | some o' =>
      rw [hd] at h
      simp only [List.nil_append] at h
      split at h
      · rename_i hl
        cases h
        refine ⟨?_, ?_, hl⟩
        · rw [hs]
          have := dec_sound _ _ _ hd
          unfold mid at this
          rw [← this]
        · exact dec_byte _ _ _ (fun z hz => bytesOf_byte s z (List.mem_of_mem_take (List.mem_of_mem_drop hz))) hd
      · cases h
  · cases h
/-- What the model comes to. -/
theorem uq_model (s : ByteArray) (h2 : 2 ≤ s.size) : (qt (strOf (sd ((bytesOf s).drop 1))) = s → uq s = some (sd ((bytesOf s).drop 1))) ∧ (qt (strOf (sd ((bytesOf s).drop 1))) ≠ s → uq s = none) := by
  have hb : ∀ z ∈ sd ((bytesOf s).drop 1), 0 ≤ z ∧ z ≤ 255 := sd_byte _ _ (Nat.le_refl _) (fun z hz => bytesOf_byte s z (List.mem_of_mem_drop hz))
  constructor
  · intro h
    unfold qt at h
    rw [str_size] at h
    split at h
    · rename_i hl
      rw [bytes_str _ hb] at h
      have := congrArg bytesOf h
      rw [bytes_str _ (by
        intro z hz
        simp only [List.cons_append, List.mem_cons, List.mem_append] at hz
        rcases hz with e | e | e
        · omega
        · exact qs_byte _ hb z e
        · simp at e; omega)] at this
      exact uq_of_quote s _ hb hl this.symm
    · rw [← h] at h2
      have : ByteArray.empty.size = 0 := rfl
      omega
  · intro h
    cases hu : uq s with
    | none => rfl
    | some o =>
      exfalso
      obtain ⟨hq, hob, hl⟩ := quote_of_uq s o hu
      have e : (bytesOf s).drop 1 = qs o ++ [34] := by rw [hq]; rfl
      rw [e, sd_qs o hob] at h
      apply h
      unfold qt
      rw [str_size, if_pos hl, bytes_str o hob, ← hq, str_bytes]
theorem uq_long (s : ByteArray) (h : 12290 < s.size) : uq s = none := by
  cases hu : uq s with
  | none => rfl
  | some o =>
    exfalso
    obtain ⟨hq, _, hl⟩ := quote_of_uq s o hu
    have := qs_len o
    have e : s.size = (qs o).length + 2 := by rw [← bytesOf_len, hq]; simp
    omega
theorem uq_short (s : ByteArray) (h : s.size < 2) : uq s = none := by unfold uq; exact if_neg (by omega)
end Go.Proofs.YtjddkofpfmjojaaGreatDoor
/-
  TextTx of the program.
-/
namespace Go.Proofs.YtjddkofpfmjojaaGreatDoor
open Go.RowKit
set_option linter.unusedVariables false
theorem cut_le (s sep : List UInt8) : (Lib.cut s sep).1.length ≤ s.length ∧ (Lib.cut s sep).2.1.length ≤ s.length := by
  unfold Lib.cut
  split
  · simp; omega
  · simp
theorem pc_size (s : ByteArray) : (pcA s).size ≤ s.size ∧ (pcB s).size ≤ s.size := by
  have := cut_le s.data.toList [46]
  have e : s.data.toList.length = s.size := by show s.data.toList.length = s.data.size; exact Array.length_toList
  rw [e] at this
  refine ⟨?_, ?_⟩
  · show (Lib.cut s.data.toList [46]).1.toArray.size ≤ _
    simpa using this.1
  · show (Lib.cut s.data.toList [46]).2.1.toArray.size ≤ _
    simpa using this.2
/-- What the library's functions want of the world. -/
structure GD (w : World) : Prop where
  tab : Tab w
  e1 : Err w 0
  e2 : Err w 1
  ml : ∃ m, w.cell? ⟨4, 0, none⟩ = some (.int .i64 m)
  g : 5 < w.heap.size
theorem GD.below {w w' : World} (h : GD w) (hb : Below w.heap.size w w') : GD w' := by
  obtain ⟨m, hm⟩ := h.ml
  exact ⟨h.tab.below hb h.g, h.e1.below hb h.e1.lt, h.e2.below hb h.e2.lt, ⟨m, (hb.cell (p := ⟨4, 0, none⟩) (block_lt hm)).trans hm⟩, Nat.lt_of_lt_of_le h.g hb.size⟩
/-- What TextTx answers. -/
def ttA (s : ByteArray) : TX := (ttV s).getD (0, 0, 0)
theorem ttA_no {s : ByteArray} (h : ¬ (txOk (ptx s) = true ∧ txT (ptx s) = s)) : ttA s = (0, 0, 0) ∧ (ttV s).isSome = false := by
  unfold ttA ttV
  rw [if_neg h]
  exact ⟨rfl, rfl⟩
theorem ttA_yes {s : ByteArray} (h : txOk (ptx s) = true ∧ txT (ptx s) = s) : ttA s = ptx s ∧ (ttV s).isSome = true := by
  unfold ttA ttV
  rw [if_pos h]
  exact ⟨rfl, rfl⟩
end Go.Proofs.YtjddkofpfmjojaaGreatDoor
/-
  Rows that are appended to, of any element; of strings and of numbers.
-/
namespace Go.Proofs.YtjddkofpfmjojaaGreatDoor
open Go.RowKit
theorem info_of {P : Program} {e : TypeId} {z : Value} {size bytes : Nat} (h : (P.info? e).map (fun i => (i.zero, i.size, i.bytes)) = some (some z, size, bytes)) : ∃ i, P.info? e = some i ∧ i.zero = some z ∧ i.size = size ∧ i.bytes = bytes := by
  obtain ⟨i, hi, hz⟩ := Option.map_eq_some_iff.1 h
  simp only [Prod.mk.injEq] at hz
  exact ⟨i, hi, hz⟩
/-- append(dst, src...), and where the new row lies. -/
theorem run_append_row_at {P : Program} {w : World} (base : Nat) (t ty e : TypeId) (i : TypeInfo) (z : Value) (size bytes : Nat) (ht : P.underlying t = some (.slice e)) (hi : P.info? e = some i) (hz : i.zero = some z)
    (hsize : i.size = size) (hby : i.bytes = bytes) (hzs : z.cells.size = size) (hsz : 0 < size) (v : Value) (n : Nat) (xs : List Value) (hown : w.ownsRow base e size v n xs)
    (S : Nat → Prop) (src : Value) (m : Nat) (news : List Value) (hsrc : Rw w S src m news) (hl : news.length = m * size) (h1 : ∀ u ∈ news, u.oneCell' = true)
    (h63 : n + m ≤ maxLen) (hbytes : (n + m) * bytes ≤ 140737488355328) (hbase : base ≤ w.heap.size) :
    ∃ v' w', (Builtin.append_ #[t, t] ty #[v, src]).run P w = .ok v' w' ∧ w'.ownsRow base e size v' (n + m) (xs ++ news) ∧ w.grownBy w' v.ownBlock ∧ (v'.ownBlock = v.ownBlock ∨ v'.ownBlock = some w.heap.size) := by
  obtain ⟨a, c, rfl, h2, h3, h4, hn, h5⟩ := hsrc
  by_cases hm : 0 < m
  · obtain ⟨b, off, rfl, hb, hS, hc⟩ := h5 hm
    obtain ⟨v', w', hr, ho, hg, _, ha⟩ := run_append_own_at w base t ty e i z size bytes ht hi hz hsize hby hzs hsz v n xs hown ⟨b, off, none⟩ m c news hl (fun j u hu => by rw [Addr.add_lit]; exact hc j u hu) h1 h63 hbytes hbase
    exact ⟨v', w', hr, ho, hg, ha⟩
  · obtain rfl : m = 0 := by omega
    obtain rfl := h4 rfl
    cases a with
    | some ad =>
      obtain ⟨v', w', hr, ho, hg, _, ha⟩ := run_append_own_at w base t ty e i z size bytes ht hi hz hsize hby hzs hsz v n xs hown ad 0 c [] hl (fun j u hu => by simp at hu) h1 h63 hbytes hbase
      exact ⟨v', w', hr, ho, hg, ha⟩
    | none =>
      obtain rfl := hn rfl
      have hrun := run_append_owned_none (P := P) (w := w) base t ty e i size ht hi v n xs hown
      exact ⟨v, w, hrun, by simpa using hown, ⟨rfl, rfl, rfl, Nat.le_refl _, fun _ _ _ => rfl⟩, .inl rfl⟩
theorem wpList_append_row_at {P : Program} {w : World} {ops : Array Oper} {rest : List Oper} {o : Oper} {a : Act} {Q : Exit → Act → World → Prop} (hgd : o.guard = none) (s x : Operand) (t : TypeId)
    (ho : o.op = .call { callee := .builtin .append, args := #[s, x], argTypes := #[t, t] })
    (base : Nat) (e : TypeId) (i : TypeInfo) (z : Value) (size bytes : Nat) (ht : P.underlying t = some (.slice e)) (hi : P.info? e = some i) (hz : i.zero = some z)
    (hsize : i.size = size) (hby : i.bytes = bytes) (hzs : z.cells.size = size) (hsz : 0 < size) (v : Value) (n : Nat) (xs : List Value) (hs : a.eval s = v) (hown : w.ownsRow base e size v n xs)
    (S : Nat → Prop) (src : Value) (m : Nat) (news : List Value) (hx : a.eval x = src) (hsrc : Rw w S src m news) (hl : news.length = m * size) (h1 : ∀ u ∈ news, u.oneCell' = true)
    (h63 : n + m ≤ maxLen) (hbytes : (n + m) * bytes ≤ 140737488355328) (hbase : base ≤ w.heap.size)
    (h : ∀ v' w', w'.ownsRow base e size v' (n + m) (xs ++ news) → w.grownBy w' v.ownBlock → (v'.ownBlock = v.ownBlock ∨ v'.ownBlock = some w.heap.size) → wpList P ops Q rest (a.put o.dst v') w') : wpList P ops Q (o :: rest) a w := by
  refine wpList_plain hgd fun K hK => ?_
  obtain ⟨v', w', hr, h2, h3, h4⟩ := run_append_row_at (P := P) (w := w) base t o.type e i z size bytes ht hi hz hsize hby hzs hsz v n xs hown S src m news hsrc hl h1 h63 hbytes hbase
  unfold Oper.wp execOp
  simp only [ho, resolve, invoke, builtin, Sem.run_bind, Sem.run_pure, Result.andThen_ok, List.map_toArray, List.map_cons, List.map_nil, hs, hx, hr]
  exact hK _ _ (h v' w' h2 h3 h4)
theorem infoStr' : (Tryz.prog.info? 9).map (fun i => (i.zero, i.size, i.bytes)) = some (some (.string ⟨#[]⟩), 1, 16) := by kernel_rfl
theorem wpList_append_st1 {w : World} {ops : Array Oper} {rest : List Oper} {o : Oper} {a : Act} {Q : Exit → Act → World → Prop} (hgd : o.guard = none) (s x : Operand)
    (ho : o.op = .call { callee := .builtin .append, args := #[s, x], argTypes := #[41, 41] }) (v : Value) (n : Nat) (xs : List Value) (hs : a.eval s = v) (hown : w.ownsRow 0 9 1 v n xs)
    (g : Nat) (z : ByteArray) (hx : a.eval x = .slice (some ⟨g, 0, none⟩) 1 1) (hB : Bk w g 9 [.string z]) (hb : n ≤ 1048576)
    (h : ∀ a' n' c' w', w'.ownsRow 0 9 1 (.slice a' n' c') (n + 1) (xs ++ [.string z]) → w.grownBy w' v.ownBlock → ((Value.slice a' n' c').ownBlock = v.ownBlock ∨ (Value.slice a' n' c').ownBlock = some w.heap.size) → wpList Tryz.prog ops Q rest (a.put o.dst (.slice a' n' c')) w') : wpList Tryz.prog ops Q (o :: rest) a w := by
  obtain ⟨i, hi, hz, hsz, hby⟩ := info_of infoStr'
  refine wpList_append_row_at hgd s x 41 ho 0 9 i _ 1 16 Tryz.underlying41 hi hz hsz hby rfl (by decide) v n xs hs hown (fun _ => True) _ 1 [.string z] hx (hB.rw (Nat.le_refl _) (by omega) (fun h => by omega) _ trivial) rfl
    (by intro u hu; simp at hu; subst hu; rfl) (by unfold maxLen; omega) (by omega) (Nat.zero_le _) ?_
  intro v' w' k1 k2 k3
  obtain ⟨a', c', rfl⟩ := own_shape k1
  exact h a' _ c' w' k1 k2 k3
theorem infoInt' : (Tryz.prog.info? 3).map (fun i => (i.zero, i.size, i.bytes)) = some (some (.int .i64 0), 1, 8) := by kernel_rfl
theorem wpList_append_in1 {w : World} {ops : Array Oper} {rest : List Oper} {o : Oper} {a : Act} {Q : Exit → Act → World → Prop} (hgd : o.guard = none) (s x : Operand)
    (ho : o.op = .call { callee := .builtin .append, args := #[s, x], argTypes := #[22, 22] }) (v : Value) (n : Nat) (xs : List Value) (hs : a.eval s = v) (hown : w.ownsRow 0 3 1 v n xs)
    (g : Nat) (z : Int) (hx : a.eval x = .slice (some ⟨g, 0, none⟩) 1 1) (hB : Bk w g 3 [.int .i64 z]) (hb : n ≤ 1048576)
    (h : ∀ a' n' c' w', w'.ownsRow 0 3 1 (.slice a' n' c') (n + 1) (xs ++ [.int .i64 z]) → w.grownBy w' v.ownBlock → ((Value.slice a' n' c').ownBlock = v.ownBlock ∨ (Value.slice a' n' c').ownBlock = some w.heap.size) → wpList Tryz.prog ops Q rest (a.put o.dst (.slice a' n' c')) w') : wpList Tryz.prog ops Q (o :: rest) a w := by
  obtain ⟨i, hi, hz, hsz, hby⟩ := info_of infoInt'
  refine wpList_append_row_at hgd s x 22 ho 0 3 i _ 1 8 Tryz.underlying22 hi hz hsz hby rfl (by decide) v n xs hs hown (fun _ => True) _ 1 [.int .i64 z] hx (hB.rw (Nat.le_refl _) (by omega) (fun h => by omega) _ trivial) rfl
    (by intro u hu; simp at hu; subst hu; rfl) (by unfold maxLen; omega) (by omega) (Nat.zero_le _) ?_
  intro v' w' k1 k2 k3
  obtain ⟨a', c', rfl⟩ := own_shape k1
  exact h a' _ c' w' k1 k2 k3
end Go.Proofs.YtjddkofpfmjojaaGreatDoor
/-
  A text cut at each dot: l07Parts of the specification, and what the parts of a name's text are.
-/
namespace Go.Proofs.YtjddkofpfmjojaaGreatDoor
open Go.RowKit
set_option linter.unusedVariables false
/-- What is cut at each dot, acc being what stands ahead. -/
def spl : List UInt8 → List UInt8 → List (List UInt8)
  | acc, [] => [acc]
  | acc, c :: l => if c = 46 then acc :: spl [] l else spl (acc ++ [c]) l
theorem spl_dot (rest : List UInt8) : ∀ (xs acc : List UInt8), (∀ c ∈ xs, c ≠ 46) → spl acc (xs ++ 46 :: rest) = (acc ++ xs) :: spl [] rest := by
  intro xs
  induction xs with
  | nil => intro acc _; simp [spl]
  | cons x xs ih =>
    intro acc h
    have hx : x ≠ 46 := h x (by simp)
    rw [List.cons_append, show spl acc (x :: (xs ++ 46 :: rest)) = spl (acc ++ [x]) (xs ++ 46 :: rest) from if_neg hx, ih _ (fun c hc => h c (by simp [hc]))]
    simp
theorem spl_end : ∀ (xs acc : List UInt8), (∀ c ∈ xs, c ≠ 46) → spl acc xs = [acc ++ xs] := by
  intro xs
  induction xs with
  | nil => intro acc _; simp [spl]
  | cons x xs ih =>
    intro acc h
    have hx : x ≠ 46 := h x (by simp)
    rw [show spl acc (x :: xs) = spl (acc ++ [x]) xs from if_neg hx, ih _ (fun c hc => h c (by simp [hc]))]
    simp
/-- The parts of a text. -/
def prt (s : ByteArray) : List ByteArray := (spl [] s.data.toList).map fun l => ⟨l.toArray⟩
theorem prt_txT (x : TX) (h : txOk x = true) : prt (txT x) = [numS x.1, numS x.2.1, numS x.2.2] := by
  obtain ⟨k0, k1, k2, k3, k4, k5⟩ := (txOk_iff x).1 h
  have a := (numS_dig x.1 k0 (by omega)).2
  have b := (numS_dig x.2.1 (by omega) (by omega)).2
  have c := (numS_dig x.2.2 (by omega) (by omega)).2
  unfold prt
  rw [txT_data x h, spl_dot _ _ _ a, spl_dot _ _ _ b, spl_end _ _ c]
  rfl
def gAt (ps : List ByteArray) (i : Nat) : Int := if i < ps.length then tgN (ps[i]?.getD ⟨#[]⟩) else 0
/-- The three numbers that the specification reads. -/
def qtx (s : ByteArray) : TX := (gAt (prt s) 0, gAt (prt s) 1, gAt (prt s) 2)
theorem qtx_txT (x : TX) (h : txOk x = true) : qtx (txT x) = x := by
  obtain ⟨k0, k1, k2, k3, k4, k5⟩ := (txOk_iff x).1 h
  unfold qtx gAt
  rw [prt_txT x h]
  simp [tgN, (numS_dig x.1 k0 (by omega)).1, (numS_dig x.2.1 (by omega) (by omega)).1, (numS_dig x.2.2 (by omega) (by omega)).1]
theorem numS_len (n : Int) (f : Nat) (h : n.toNat < 10 ^ (f + 1)) (h0 : 0 ≤ n) (h1 : n ≤ 1099511627775) : (numS n).size ≤ f + 1 := by
  rw [numS_ok n h0 h1]
  have := dec_len f n.toNat h
  show (Lib.decDigits n.toNat).toArray.size ≤ f + 1
  simpa using this
theorem txT_size (x : TX) (h : txOk x = true) : (txT x).size ≤ 9 ∧ 0 < (txT x).size := by
  obtain ⟨k0, k1, k2, k3, k4, k5⟩ := (txOk_iff x).1 h
  have a := numS_len x.1 0 (by omega) k0 (by omega)
  have b := numS_len x.2.1 2 (by omega) (by omega) (by omega)
  have c := numS_len x.2.2 2 (by omega) (by omega) (by omega)
  have hd := dot_size
  rw [txT_yes h]
  simp only [ByteArray.size_append]
  omega
/-- What the specification finds is what the program finds. -/
theorem spec_tt (s : ByteArray) : ((s.size ≤ 9 ∧ 0 < s.size ∧ txT (qtx s) = s) → ttV s = some (qtx s)) ∧ (¬ (s.size ≤ 9 ∧ 0 < s.size ∧ txT (qtx s) = s) → ttV s = none) := by
  constructor
  · rintro ⟨h1, h2, h3⟩
    refine ttV_some.2 ⟨?_, h3⟩
    cases e : txOk (qtx s) with
    | true => rfl
    | false =>
      rw [txT_no e] at h3
      rw [← h3] at h2
      exact absurd h2 (by decide)
  · intro h
    cases e : ttV s with
    | none => rfl
    | some x =>
      obtain ⟨h1, rfl⟩ := ttV_some.1 e
      exact absurd ⟨(txT_size x h1).1, (txT_size x h1).2, by rw [qtx_txT x h1]⟩ h
theorem spl_step (l acc : List UInt8) (i : Nat) (h : i < l.length) : spl acc (l.drop i) = if l[i] = 46 then acc :: spl [] (l.drop (i + 1)) else spl (acc ++ [l[i]]) (l.drop (i + 1)) := by
  rw [List.drop_eq_getElem_cons h]
  rfl
end Go.Proofs.YtjddkofpfmjojaaGreatDoor
/-
  l07Parts of the specification.
-/
namespace Go.Proofs.YtjddkofpfmjojaaGreatDoor
open Go.RowKit
set_option linter.unusedVariables false
theorem wpList_append_sB {w : World} {ops : Array Oper} {rest : List Oper} {o : Oper} {a : Act} {Q : Exit → Act → World → Prop} (hgd : o.guard = none) (s x : Operand)
    (ho : o.op = .call { callee := .builtin .append, args := #[s, x], argTypes := #[41, 41] }) (B : Nat) (v : Value) (n : Nat) (xs : List Value) (hs : a.eval s = v) (hown : w.ownsRow B 9 1 v n xs)
    (g : Nat) (z : ByteArray) (hx : a.eval x = .slice (some ⟨g, 0, none⟩) 1 1) (hB : Bk w g 9 [.string z]) (hb : n ≤ 1048576) (hbase : B ≤ w.heap.size)
    (h : ∀ a' n' c' w', w'.ownsRow B 9 1 (.slice a' n' c') (n + 1) (xs ++ [.string z]) → w.grownBy w' v.ownBlock → wpList Tryz.prog ops Q rest (a.put o.dst (.slice a' n' c')) w') : wpList Tryz.prog ops Q (o :: rest) a w := by
  obtain ⟨i, hi, hz, hsz, hby⟩ := info_of infoStr'
  refine wpList_append_row_at hgd s x 41 ho B 9 i _ 1 16 Tryz.underlying41 hi hz hsz hby rfl (by decide) v n xs hs hown (fun _ => True) _ 1 [.string z] hx (hB.rw (Nat.le_refl _) (by omega) (fun h => by omega) _ trivial) rfl
    (by intro u hu; simp at hu; subst hu; rfl) (by unfold maxLen; omega) (by omega) hbase ?_
  intro v' w' k1 k2 k3
  obtain ⟨a', c', rfl⟩ := own_shape k1
  exact h a' _ c' w' k1 k2
theorem ext_data (s : ByteArray) (f i : Nat) : (⟨((s.data.toList.drop f).take (i - f)).toArray⟩ : ByteArray) = s.extract f i := by
  rw [Lib.extract_eq]
/-- What l07Parts leaves: a row of its own with the parts. -/
def PrPost (s : ByteArray) (w : World) (e : Ending) (w' : World) : Prop := ∃ a n c, e = .returned (.slice a n c) ∧ w'.ownsRow w.heap.size 9 1 (.slice a n c) (prt s).length ((prt s).map Value.string) ∧ Below w.heap.size w w'
set_option maxHeartbeats 4000000 in
theorem l07Parts_any (s : ByteArray) (w : World) (hs : s.size ≤ 1048576) : Calls Tryz.prog 15 #[.string s, .int .u8 46] w fun e w' => PrPost s w e w' := by
  unfold PrPost
  have SD : Hid (s.data.toList.length = s.size) := by show s.data.toList.length = s.data.size; exact Array.length_toList
  have O0 : Hid ((w.alloc (.cells #[] 9)).ownsRow w.heap.size 9 1 (.slice (some ⟨w.heap.size, 0, none⟩) 0 0) 0 []) := ⟨rfl, .inr ⟨w.heap.size, 0, #[], rfl, Nat.le_refl _, heap_alloc_new w _, Nat.le_refl _, by decide, rfl, rfl⟩⟩
  have B0 : Hid (Below w.heap.size w (w.alloc (.cells #[] 9))) := below_new (Below.refl _ _)
  go_enter Tryz.func15, Tryz.ntmps15
  go_wp2_with fail
  go_loopw [5, 6, 7] (fun x y i wr => ∃ (k f : Nat) (os : List (List UInt8)) (a : Option Addr) (n c : Nat), x = .slice a n c ∧ y = .int .i64 f ∧ i = .int .i64 k ∧ f ≤ k ∧ k ≤ s.size ∧ Hid (os.length ≤ k) ∧ Hid (Below w.heap.size w wr) ∧ Hid (wr.ownsRow w.heap.size 9 1 (.slice a n c) os.length (os.map fun l => Value.string ⟨l.toArray⟩)) ∧ Hid (spl [] s.data.toList = os ++ spl ((s.data.toList.drop f).take (k - f)) (s.data.toList.drop k))) (fun _ _ i _ => s.size - (intOf i).toNat)
  case atStart => exact ⟨0, 0, [], some ⟨w.heap.size, 0, none⟩, 0, 0, rfl, rfl, rfl, Nat.le_refl _, Nat.zero_le _, Nat.le_refl _, B0.out, O0.out, by show _ = _; simp⟩
  case round =>
    clear O0 B0
    obtain ⟨k, f, os, a, n, c, rfl, rfl, rfl, hfk, hk, HL, HB, HO, HS⟩ := hrel
    by_cases hlt : k < s.size
    · have hlt' : (k : Int) < (s.size : Int) := by omega
      have hkl : k < s.data.toList.length := by rw [SD.out]; exact hlt
      have HST := hid (spl_step s.data.toList ((s.data.toList.drop f).take (k - f)) k hkl)
      have HE : Hid (s.data.toList[k] = s[k]) := rfl
      by_cases hd : s[k] = 46
      · have d1 : ((s[k].toNat : Int) == 46) = true := by rw [hd]; rfl
        have d2 : (s[k].toNat : Int) = 46 := by rw [hd]; rfl
        have HS2 : Hid (spl [] s.data.toList = (os ++ [(s.data.toList.drop f).take (k - f)]) ++ spl ((s.data.toList.drop (k + 1)).take (k + 1 - (k + 1))) (s.data.toList.drop (k + 1))) := by
          show _ = _
          rw [HS.out, HST.out, if_pos (by rw [HE.out]; exact hd)]
          simp
        have hb := below_new (o := .cells #[.string (s.extract f k)] 9) (w := wr) (Below.refl _ _)
        have B2 := hid (HB.out.trans (hb.mono HB.out.size))
        have O2 := hid (own_kept HO.out (only_of_below hb (fun _ => False)) (fun _ _ h => h))
        have NB := hid (Bk.new wr 9 [.string (s.extract f k)])
        have hol : os.length ≤ 1048576 := by have := HL.out; omega
        have hfk' : (f : Int) ≤ (k : Int) := by omega
        have hks : (k : Int) ≤ (s.size : Int) := by omega
        clear hb HST HE HO HB HS hd
        go_wp2_with (at_builtin; refine wpList_append_sB rfl _ _ rfl w.heap.size _ _ _ rfl O2.out wr.heap.size (s.extract f k) rfl NB.out hol B2.out.size ?_)
        intro a' n' c' w4 hO4 hg4
        have B4 : Hid (Below w.heap.size w w4) := B2.out.trans ((only_of_grown hg4 (R := fun y => (Value.slice a n c).ownBlock = some y) (fun k q => q)).below B2.out.size (fun b hb q => by have := (World.ownsRow.lt O2.out b q).1; omega))
        have O4 : Hid (w4.ownsRow w.heap.size 9 1 (.slice a' n' c') (os ++ [(s.data.toList.drop f).take (k - f)]).length ((os ++ [(s.data.toList.drop f).take (k - f)]).map fun l => Value.string ⟨l.toArray⟩)) := by
          show World.ownsRow _ _ _ _ _ _ _
          rw [List.map_append, List.length_append, List.map_cons, List.map_nil, ext_data]
          exact hO4
        have L4 : Hid ((os ++ [(s.data.toList.drop f).take (k - f)]).length ≤ k + 1) := by have := HL.out; show _ ≤ _; simp; omega
        clear hO4 hg4 O2 B2 NB
        go_wp2
        go_roundw
        case rel => exact ⟨k + 1, k + 1, _, a', n', c', rfl, by go_num, by go_num, Nat.le_refl _, by omega, L4.out, B4.out, O4.out, HS2.out⟩
        case measure => simp [intOf]; omega
      · have d0 : s[k].toNat ≠ 46 := fun q => hd (by apply UInt8.toNat_inj.1; rw [q]; rfl)
        have d1 : ((s[k].toNat : Int) == 46) = false := by simp; omega
        have d2 : ¬ (s[k].toNat : Int) = 46 := by omega
        have HS2 : Hid (spl [] s.data.toList = os ++ spl ((s.data.toList.drop f).take (k + 1 - f)) (s.data.toList.drop (k + 1))) := by
          show _ = _
          rw [HS.out, HST.out, if_neg (by rw [HE.out]; exact hd)]
          congr 2
          rw [show k + 1 - f = (k - f) + 1 by omega, List.take_succ_eq_append_getElem (by rw [List.length_drop]; omega)]
          simp [show f + (k - f) = k by omega]
        have L4 : Hid (os.length ≤ k + 1) := by have := HL.out; show _ ≤ _; omega
        clear HST HE HS hd d0
        go_wp2
        go_roundw
        case rel => exact ⟨k + 1, f, os, a, n, c, rfl, rfl, by go_num, by omega, by omega, L4.out, HB.out, HO.out, HS2.out⟩
        case measure => simp [intOf]; omega
    · have hks : k = s.size := by omega
      subst hks
      have HP : Hid (prt s = (os ++ [(s.data.toList.drop f).take (s.size - f)]).map fun l => ⟨l.toArray⟩) := by
        show _ = _
        unfold prt
        rw [HS.out, List.drop_eq_nil_of_le (Nat.le_of_eq SD.out)]
        rfl
      have hb := below_new (o := .cells #[.string (s.extract f s.size)] 9) (w := wr) (Below.refl _ _)
      have B2 := hid (HB.out.trans (hb.mono HB.out.size))
      have O2 := hid (own_kept HO.out (only_of_below hb (fun _ => False)) (fun _ _ h => h))
      have NB := hid (Bk.new wr 9 [.string (s.extract f s.size)])
      have hol : os.length ≤ 1048576 := by have := HL.out; omega
      have hfk' : (f : Int) ≤ (s.size : Int) := by omega
      clear hb HO HB HS
      go_wp2_with (at_builtin; refine wpList_append_sB rfl _ _ rfl w.heap.size _ _ _ rfl O2.out wr.heap.size (s.extract f s.size) rfl NB.out hol B2.out.size ?_)
      intro a' n' c' w4 hO4 hg4
      have B4 : Hid (Below w.heap.size w w4) := B2.out.trans ((only_of_grown hg4 (R := fun y => (Value.slice a n c).ownBlock = some y) (fun k q => q)).below B2.out.size (fun b hb q => by have := (World.ownsRow.lt O2.out b q).1; omega))
      have O4 : Hid (w4.ownsRow w.heap.size 9 1 (.slice a' n' c') (prt s).length ((prt s).map Value.string)) := by
        show World.ownsRow _ _ _ _ _ _ _
        rw [HP.out, List.map_map, List.length_map, List.map_append, List.length_append, List.map_cons, List.map_nil]
        show World.ownsRow _ _ _ _ _ _ ((os.map fun l => Value.string ⟨l.toArray⟩) ++ [Value.string ⟨((s.data.toList.drop f).take (s.size - f)).toArray⟩])
        rw [ext_data]
        exact hO4
      clear hO4 hg4 O2 B2 NB
      go_wp2
      go_ret
      exact ⟨a', n', c', rfl, O4.out, B4.out⟩
end Go.Proofs.YtjddkofpfmjojaaGreatDoor
/-
  A text cut at each byte of a kind: l07Parts of the specification.
-/
namespace Go.Proofs.YtjddkofpfmjojaaGreatDoor
open Go.RowKit
set_option linter.unusedVariables false
/-- What is cut at each byte d, acc being what stands ahead. -/
def splD (d : UInt8) : List UInt8 → List UInt8 → List (List UInt8)
  | acc, [] => [acc]
  | acc, c :: l => if c = d then acc :: splD d [] l else splD d (acc ++ [c]) l
theorem splD_cut (d : UInt8) (rest : List UInt8) : ∀ (xs acc : List UInt8), (∀ c ∈ xs, c ≠ d) → splD d acc (xs ++ d :: rest) = (acc ++ xs) :: splD d [] rest := by
  intro xs
  induction xs with
  | nil => intro acc _; simp [splD]
  | cons x xs ih =>
    intro acc h
    have hx : x ≠ d := h x (by simp)
    rw [List.cons_append, show splD d acc (x :: (xs ++ d :: rest)) = splD d (acc ++ [x]) (xs ++ d :: rest) from if_neg hx, ih _ (fun c hc => h c (by simp [hc]))]
    simp
theorem splD_end (d : UInt8) : ∀ (xs acc : List UInt8), (∀ c ∈ xs, c ≠ d) → splD d acc xs = [acc ++ xs] := by
  intro xs
  induction xs with
  | nil => intro acc _; simp [splD]
  | cons x xs ih =>
    intro acc h
    have hx : x ≠ d := h x (by simp)
    rw [show splD d acc (x :: xs) = splD d (acc ++ [x]) xs from if_neg hx, ih _ (fun c hc => h c (by simp [hc]))]
    simp
/-- The parts of a text. -/
def prtD (d : UInt8) (s : ByteArray) : List ByteArray := (splD d [] s.data.toList).map fun l => ⟨l.toArray⟩
theorem splD_step (d : UInt8) (l acc : List UInt8) (i : Nat) (h : i < l.length) : splD d acc (l.drop i) = if l[i] = d then acc :: splD d [] (l.drop (i + 1)) else splD d (acc ++ [l[i]]) (l.drop (i + 1)) := by
  rw [List.drop_eq_getElem_cons h]
  rfl
theorem splD_ne (d : UInt8) : ∀ (l acc : List UInt8), splD d acc l ≠ []
  | [], acc => by simp [splD]
  | c :: l, acc => by
    rw [splD]
    split
    · simp
    · exact splD_ne d l _
theorem splD_len (d : UInt8) : ∀ (l acc : List UInt8), ∀ p ∈ splD d acc l, p.length ≤ acc.length + l.length
  | [], acc, p, hp => by
    have : p = acc := by simpa [splD] using hp
    subst this; simp
  | c :: l, acc, p, hp => by
    rw [splD] at hp
    split at hp
    · rcases List.mem_cons.1 hp with rfl | hp
      · simp
      · have := splD_len d l [] p hp
        simp at this ⊢; omega
    · have := splD_len d l _ p hp
      simp at this ⊢; omega
theorem prtD_size (d : UInt8) (s : ByteArray) : ∀ p ∈ prtD d s, p.size ≤ s.size := by
  intro p hp
  obtain ⟨l, hl, rfl⟩ := List.mem_map.1 hp
  have := splD_len d _ _ l hl
  show l.toArray.size ≤ s.data.size
  simpa using this
/-- What l07Parts leaves: a row of its own with the parts. -/
def PrPostD (d : UInt8) (s : ByteArray) (w : World) (e : Ending) (w' : World) : Prop := ∃ a n c, e = .returned (.slice a n c) ∧ w'.ownsRow w.heap.size 9 1 (.slice a n c) (prtD d s).length ((prtD d s).map Value.string) ∧ Below w.heap.size w w'
set_option maxHeartbeats 4000000 in
theorem l07PartsD_any (d : UInt8) (s : ByteArray) (w : World) (hs : s.size ≤ 1048576) : Calls Tryz.prog 15 #[.string s, .int .u8 d.toNat] w fun e w' => PrPostD d s w e w' := by
  unfold PrPostD
  have SD : Hid (s.data.toList.length = s.size) := by show s.data.toList.length = s.data.size; exact Array.length_toList
  have O0 : Hid ((w.alloc (.cells #[] 9)).ownsRow w.heap.size 9 1 (.slice (some ⟨w.heap.size, 0, none⟩) 0 0) 0 []) := ⟨rfl, .inr ⟨w.heap.size, 0, #[], rfl, Nat.le_refl _, heap_alloc_new w _, Nat.le_refl _, by decide, rfl, rfl⟩⟩
  have B0 : Hid (Below w.heap.size w (w.alloc (.cells #[] 9))) := below_new (Below.refl _ _)
  go_enter Tryz.func15, Tryz.ntmps15
  go_wp2_with fail
  go_loopw [5, 6, 7] (fun x y i wr => ∃ (k f : Nat) (os : List (List UInt8)) (a : Option Addr) (n c : Nat), x = .slice a n c ∧ y = .int .i64 f ∧ i = .int .i64 k ∧ f ≤ k ∧ k ≤ s.size ∧ Hid (os.length ≤ k) ∧ Hid (Below w.heap.size w wr) ∧ Hid (wr.ownsRow w.heap.size 9 1 (.slice a n c) os.length (os.map fun l => Value.string ⟨l.toArray⟩)) ∧ Hid (splD d [] s.data.toList = os ++ splD d ((s.data.toList.drop f).take (k - f)) (s.data.toList.drop k))) (fun _ _ i _ => s.size - (intOf i).toNat)
  case atStart => exact ⟨0, 0, [], some ⟨w.heap.size, 0, none⟩, 0, 0, rfl, rfl, rfl, Nat.le_refl _, Nat.zero_le _, Nat.le_refl _, B0.out, O0.out, by show _ = _; simp⟩
  case round =>
    clear O0 B0
    obtain ⟨k, f, os, a, n, c, rfl, rfl, rfl, hfk, hk, HL, HB, HO, HS⟩ := hrel
    by_cases hlt : k < s.size
    · have hlt' : (k : Int) < (s.size : Int) := by omega
      have hkl : k < s.data.toList.length := by rw [SD.out]; exact hlt
      have HST := hid (splD_step d s.data.toList ((s.data.toList.drop f).take (k - f)) k hkl)
      have HE : Hid (s.data.toList[k] = s[k]) := rfl
      by_cases hd : s[k] = d
      · have d1 : ((s[k].toNat : Int) == (d.toNat : Int)) = true := by rw [hd]; simp
        have d2 : (s[k].toNat : Int) = (d.toNat : Int) := by rw [hd]
        have HS2 : Hid (splD d [] s.data.toList = (os ++ [(s.data.toList.drop f).take (k - f)]) ++ splD d ((s.data.toList.drop (k + 1)).take (k + 1 - (k + 1))) (s.data.toList.drop (k + 1))) := by
          show _ = _
          rw [HS.out, HST.out, if_pos (by rw [HE.out]; exact hd)]
          simp
        have hb := below_new (o := .cells #[.string (s.extract f k)] 9) (w := wr) (Below.refl _ _)
        have B2 := hid (HB.out.trans (hb.mono HB.out.size))
        have O2 := hid (own_kept HO.out (only_of_below hb (fun _ => False)) (fun _ _ h => h))
        have NB := hid (Bk.new wr 9 [.string (s.extract f k)])
        have hol : os.length ≤ 1048576 := by have := HL.out; omega
        have hfk' : (f : Int) ≤ (k : Int) := by omega
        have hks : (k : Int) ≤ (s.size : Int) := by omega
        clear hb HST HE HO HB HS hd
        go_wp2_with (at_builtin; refine wpList_append_sB rfl _ _ rfl w.heap.size _ _ _ rfl O2.out wr.heap.size (s.extract f k) rfl NB.out hol B2.out.size ?_)
        intro a' n' c' w4 hO4 hg4
        have B4 : Hid (Below w.heap.size w w4) := B2.out.trans ((only_of_grown hg4 (R := fun y => (Value.slice a n c).ownBlock = some y) (fun k q => q)).below B2.out.size (fun b hb q => by have := (World.ownsRow.lt O2.out b q).1; omega))
        have O4 : Hid (w4.ownsRow w.heap.size 9 1 (.slice a' n' c') (os ++ [(s.data.toList.drop f).take (k - f)]).length ((os ++ [(s.data.toList.drop f).take (k - f)]).map fun l => Value.string ⟨l.toArray⟩)) := by
          show World.ownsRow _ _ _ _ _ _ _
          rw [List.map_append, List.length_append, List.map_cons, List.map_nil, ext_data]
          exact hO4
        have L4 : Hid ((os ++ [(s.data.toList.drop f).take (k - f)]).length ≤ k + 1) := by have := HL.out; show _ ≤ _; simp; omega
        clear hO4 hg4 O2 B2 NB
        go_wp2
        go_roundw
        case rel => exact ⟨k + 1, k + 1, _, a', n', c', rfl, by go_num, by go_num, Nat.le_refl _, by omega, L4.out, B4.out, O4.out, HS2.out⟩
        case measure => simp [intOf]; omega
      · have d0 : s[k].toNat ≠ d.toNat := fun q => hd (by apply UInt8.toNat_inj.1; rw [q])
        have d1 : ((s[k].toNat : Int) == (d.toNat : Int)) = false := by simp; omega
        have d2 : ¬ (s[k].toNat : Int) = (d.toNat : Int) := by omega
        have HS2 : Hid (splD d [] s.data.toList = os ++ splD d ((s.data.toList.drop f).take (k + 1 - f)) (s.data.toList.drop (k + 1))) := by
          show _ = _
          rw [HS.out, HST.out, if_neg (by rw [HE.out]; exact hd)]
          congr 2
          rw [show k + 1 - f = (k - f) + 1 by omega, List.take_succ_eq_append_getElem (by rw [List.length_drop]; omega)]
          simp [show f + (k - f) = k by omega]
        have L4 : Hid (os.length ≤ k + 1) := by have := HL.out; show _ ≤ _; omega
        clear HST HE HS hd d0
        go_wp2
        go_roundw
        case rel => exact ⟨k + 1, f, os, a, n, c, rfl, rfl, by go_num, by omega, by omega, L4.out, HB.out, HO.out, HS2.out⟩
        case measure => simp [intOf]; omega
    · have hks : k = s.size := by omega
      subst hks
      have HP : Hid (prtD d s = (os ++ [(s.data.toList.drop f).take (s.size - f)]).map fun l => ⟨l.toArray⟩) := by
        show _ = _
        unfold prtD
        rw [HS.out, List.drop_eq_nil_of_le (Nat.le_of_eq SD.out)]
        rfl
      have hb := below_new (o := .cells #[.string (s.extract f s.size)] 9) (w := wr) (Below.refl _ _)
      have B2 := hid (HB.out.trans (hb.mono HB.out.size))
      have O2 := hid (own_kept HO.out (only_of_below hb (fun _ => False)) (fun _ _ h => h))
      have NB := hid (Bk.new wr 9 [.string (s.extract f s.size)])
      have hol : os.length ≤ 1048576 := by have := HL.out; omega
      have hfk' : (f : Int) ≤ (s.size : Int) := by omega
      clear hb HO HB HS
      go_wp2_with (at_builtin; refine wpList_append_sB rfl _ _ rfl w.heap.size _ _ _ rfl O2.out wr.heap.size (s.extract f s.size) rfl NB.out hol B2.out.size ?_)
      intro a' n' c' w4 hO4 hg4
      have B4 : Hid (Below w.heap.size w w4) := B2.out.trans ((only_of_grown hg4 (R := fun y => (Value.slice a n c).ownBlock = some y) (fun k q => q)).below B2.out.size (fun b hb q => by have := (World.ownsRow.lt O2.out b q).1; omega))
      have O4 : Hid (w4.ownsRow w.heap.size 9 1 (.slice a' n' c') (prtD d s).length ((prtD d s).map Value.string)) := by
        show World.ownsRow _ _ _ _ _ _ _
        rw [HP.out, List.map_map, List.length_map, List.map_append, List.length_append, List.map_cons, List.map_nil]
        show World.ownsRow _ _ _ _ _ _ ((os.map fun l => Value.string ⟨l.toArray⟩) ++ [Value.string ⟨((s.data.toList.drop f).take (s.size - f)).toArray⟩])
        rw [ext_data]
        exact hO4
      clear hO4 hg4 O2 B2 NB
      go_wp2
      go_ret
      exact ⟨a', n', c', rfl, O4.out, B4.out⟩
end Go.Proofs.YtjddkofpfmjojaaGreatDoor
/-
  Steps as words, in plain: the words of a step, the text that they join to, and that they are read again.
-/
namespace Go.Proofs.YtjddkofpfmjojaaGreatDoor
open Go.RowKit
set_option linter.unusedVariables false
theorem wq_hexD (d : Int) (h0 : 0 ≤ d) (h1 : d ≤ 15) : 33 ≤ hexD d ∧ hexD d ≤ 126 := by unfold hexD; split <;> omega
theorem wq_qb (z : Int) (h0 : 0 ≤ z) (h1 : z ≤ 255) : ∀ x ∈ qb z, 33 ≤ x ∧ x ≤ 126 := by
  intro x hx
  unfold qb at hx
  split at hx
  · rename_i h
    have := (isPl_iff z).1 h
    simp at hx
    omega
  · have a := wq_hexD (z / 16) (by omega) (by omega)
    have b := wq_hexD (z % 16) (by omega) (by omega)
    simp at hx
    omega
theorem wq_vis (s : ByteArray) : ∀ x ∈ (34 :: qs (bytesOf s) ++ [34] : List Int), 33 ≤ x ∧ x ≤ 126 := by
  intro x hx
  simp only [List.cons_append, List.mem_cons, List.mem_append] at hx
  rcases hx with e | e | e
  · omega
  · obtain ⟨z, hz, hx⟩ := List.mem_flatMap.1 e
    have := bytesOf_byte s z hz
    exact wq_qb z this.1 this.2 x hx
  · simp at e; omega
theorem wq_bytes (s : ByteArray) (h : s.size ≤ 4096) : bytesOf (qt s) = 34 :: qs (bytesOf s) ++ [34] := by
  unfold qt
  rw [if_pos h]
  exact bytes_str _ (fun z hz => by have := wq_vis s z hz; omega)
theorem wq_size (s : ByteArray) : (qt s).size ≤ 12290 := by
  by_cases h : s.size ≤ 4096
  · rw [← bytesOf_len, wq_bytes s h]
    have := qs_len (bytesOf s)
    have := bytesOf_len s
    simp; omega
  · unfold qt
    rw [if_neg h]
    exact Nat.zero_le _
theorem wq_uq (s : ByteArray) (h : s.size ≤ 4096) : uq (qt s) = some (bytesOf s) :=
  uq_of_quote (qt s) (bytesOf s) (bytesOf_byte s) (by rw [bytesOf_len]; exact h) (wq_bytes s h)
theorem wq_no (s : ByteArray) (h : ¬ s.size ≤ 4096) : qt s = ByteArray.empty := by unfold qt; exact if_neg h
theorem wq_pos (s : ByteArray) (h : s.size ≤ 4096) : 2 ≤ (qt s).size := by
  rw [← bytesOf_len, wq_bytes s h]; simp
/-- No byte of a word is a blank. -/
def NoB (d : UInt8) (s : ByteArray) : Prop := ∀ c ∈ s.data.toList, c ≠ d
theorem wq_nob (s : ByteArray) : NoB 32 (qt s) := by
  by_cases h : s.size ≤ 4096
  · intro c hc e
    subst e
    have hm : (32 : Int) ∈ bytesOf (qt s) := by
      unfold bytesOf
      exact List.mem_map.2 ⟨32, hc, rfl⟩
    rw [wq_bytes s h] at hm
    have := wq_vis s 32 hm
    omega
  · rw [wq_no s h]; intro c hc; cases hc
theorem numS_nob (n : Int) : NoB 32 (numS n) := by
  by_cases h : 0 ≤ n ∧ n ≤ 1099511627775
  · intro c hc e
    have ht := (numS_dig n h.1 h.2).1
    have hd := (tn_digits n (numS n) ht).2 c hc
    subst e
    exact absurd hd.1 (by decide)
  · rw [numS_bad n h]; intro c hc; cases hc
theorem numS_zero (n : Int) : numS n = ByteArray.empty ↔ ¬ (0 ≤ n ∧ n ≤ 1099511627775) := by
  constructor
  · intro e h
    have ht := (numS_dig n h.1 h.2).1
    rw [e] at ht
    exact absurd (tn_some _ _ ht).2 (by decide)
  · intro h; exact numS_bad n h
theorem tgN_numS (n : Int) (h : numS n ≠ ByteArray.empty) : tgN (numS n) = n := by
  have h2 : 0 ≤ n ∧ n ≤ 1099511627775 := Classical.byContradiction fun q => h ((numS_zero n).2 q)
  unfold tgN
  rw [(numS_dig n h2.1 h2.2).1]
  rfl
theorem tgN_nil : tgN ByteArray.empty = 0 := by
  unfold tgN
  cases e : tn ByteArray.empty with
  | none => rfl
  | some n => exact absurd (tn_some _ _ e).2 (by decide)
/-- A quoted word read: empty where it isn't one. -/
def uqS (s : ByteArray) : ByteArray := strOf ((uq s).getD [])
theorem uqS_qt (s : ByteArray) (h : qt s ≠ ByteArray.empty) : uqS (qt s) = s := by
  have h2 : s.size ≤ 4096 := Classical.byContradiction fun q => h (wq_no s q)
  unfold uqS
  rw [wq_uq s h2]
  exact str_bytes s
theorem uqS_nil : uqS ByteArray.empty = ByteArray.empty := by
  unfold uqS
  rw [uq_short _ (by decide)]
  rfl

/-- A step: its numbers, its list, its call. -/
structure ST where
  k : Int
  a : Int
  b : Int
  kp : List Int
  kd : Int
  ak : Int
  ky : ByteArray
  vl : ByteArray
  lo : ByteArray
  hi : ByteArray
  mo : Int
  bk : Bool
def wBegin : ByteArray := ⟨#[98, 101, 103, 105, 110]⟩
def wCommit : ByteArray := ⟨#[99, 111, 109, 109, 105, 116]⟩
def wAbort : ByteArray := ⟨#[97, 98, 111, 114, 116]⟩
def wGet : ByteArray := ⟨#[103, 101, 116]⟩
def wPut : ByteArray := ⟨#[112, 117, 116]⟩
def wDel : ByteArray := ⟨#[100, 101, 108]⟩
def wScan : ByteArray := ⟨#[115, 99, 97, 110]⟩
def wBack : ByteArray := ⟨#[98, 97, 99, 107]⟩
def wDash : ByteArray := ⟨#[45]⟩
def wCall : ByteArray := ⟨#[99, 97, 108, 108]⟩
def wDeliver : ByteArray := ⟨#[100, 101, 108, 105, 118, 101, 114]⟩
def wLose : ByteArray := ⟨#[108, 111, 115, 101]⟩
def wDouble : ByteArray := ⟨#[100, 111, 117, 98, 108, 101]⟩
def wTick : ByteArray := ⟨#[116, 105, 99, 107]⟩
def wDown : ByteArray := ⟨#[100, 111, 119, 110]⟩
def wTorn : ByteArray := ⟨#[116, 111, 114, 110]⟩
def wUp : ByteArray := ⟨#[117, 112]⟩
def wCalm : ByteArray := ⟨#[99, 97, 108, 109]⟩
/-- The first words of steps, each at the place of its kind. -/
def stWs : List ByteArray := [⟨#[]⟩, wCall, wDeliver, wLose, wDouble, wTick, wDown, wTorn, wUp, wCalm]
def sw (k : Int) : ByteArray := if 0 ≤ k then stWs[k.toNat]?.getD ⟨#[]⟩ else ⟨#[]⟩
def akW (ak : Int) (ky vl lo hi : ByteArray) (mo : Int) (bk : Bool) : List ByteArray :=
  if ak = 1 then [wGet, qt ky] else if ak = 2 then [wPut, qt ky, qt vl] else if ak = 3 then [wDel, qt ky] else [if bk then wBack else wScan, qt lo, qt hi, numS mo]
def cwd (kd : Int) : ByteArray := if kd = 1 then wBegin else if kd = 2 then ⟨#[97, 115, 107]⟩ else if kd = 3 then wCommit else if kd = 4 then wAbort else wDash
def clW (kd ak : Int) (ky vl lo hi : ByteArray) (mo : Int) (bk : Bool) : List ByteArray := if kd = 2 then akW ak ky vl lo hi mo bk else [cwd kd]
/-- The words of a step. -/
def stW (s : ST) : List ByteArray := sw s.k :: ((if s.k = 5 then [] else [numS s.a]) ++ (if s.k = 1 then clW s.kd s.ak s.ky s.vl s.lo s.hi s.mo s.bk else if s.k = 7 then numS s.b :: s.kp.map numS else []))
/-- Nothing is in a call. -/
def clZ (kd ak : Int) (ky vl lo hi : ByteArray) (mo : Int) (bk : Bool) : Bool := decide (kd = 0) && akZ ak ky vl lo hi mo bk
/-- A step has nothing that its words don't tell. -/
def stWr (s : ST) : Bool := if s.k = 1 then decide (s.b = 0) && (decide (s.kp = []) && clOk s.kd s.ak s.ky s.vl s.lo s.hi s.mo s.bk) else if s.k = 7 then clZ s.kd s.ak s.ky s.vl s.lo s.hi s.mo s.bk
  else (decide (s.k ≠ 5) || decide (s.a = 0)) && (decide (s.b = 0) && (decide (s.kp = []) && clZ s.kd s.ak s.ky s.vl s.lo s.hi s.mo s.bk))
def blk : ByteArray := ⟨#[32]⟩
/-- Words parted by a blank each. -/
def joinW : List ByteArray → ByteArray
  | [] => ⟨#[]⟩
  | x :: r => r.foldl (fun o y => o ++ blk ++ y) x
def noE (ws : List ByteArray) : Bool := ws.all fun w => decide (w ≠ ByteArray.empty)
/-- The text of a step. -/
def stT (s : ST) : ByteArray := if stWr s && noE (stW s) then joinW (stW s) else ⟨#[]⟩
theorem joinW_snoc {ws : List ByteArray} (h : ws ≠ []) (w : ByteArray) : joinW (ws ++ [w]) = joinW ws ++ blk ++ w := by
  cases ws with
  | nil => exact absurd rfl h
  | cons x r => simp [joinW, List.foldl_append]
theorem joinW_fold : ∀ (r : List ByteArray) (x y : ByteArray), r.foldl (fun o z => o ++ blk ++ z) (x ++ blk ++ y) = x ++ blk ++ r.foldl (fun o z => o ++ blk ++ z) y
  | [], x, y => rfl
  | z :: r, x, y => by
    rw [List.foldl_cons, List.foldl_cons, show x ++ blk ++ y ++ blk ++ z = x ++ blk ++ (y ++ blk ++ z) by simp only [ByteArray.append_assoc], joinW_fold r x]
theorem joinW_app {ws vs : List ByteArray} (h : ws ≠ []) (k : vs ≠ []) : joinW (ws ++ vs) = joinW ws ++ blk ++ joinW vs := by
  cases ws with
  | nil => exact absurd rfl h
  | cons x r =>
    cases vs with
    | nil => exact absurd rfl k
    | cons y q =>
      show (r ++ y :: q).foldl _ x = _
      rw [List.foldl_append, List.foldl_cons, joinW_fold]
      rfl
theorem joinW_data : ∀ (r : List ByteArray) (x : ByteArray), (joinW (x :: r)).data.toList = x.data.toList ++ Lib.joinTail [32] (r.map (·.data.toList))
  | [], x => by simp [joinW, Lib.joinTail]
  | y :: r, x => by
    have h := joinW_app (ws := [x]) (vs := y :: r) (by simp) (by simp)
    rw [show x :: y :: r = [x] ++ (y :: r) from rfl, h]
    have e := joinW_data r y
    simp only [ByteArray.data_append, Array.toList_append, e]
    simp [Lib.joinTail, joinW, blk]
theorem joinW_lib (ws : List ByteArray) : joinW ws = ⟨(Lib.join (ws.map (·.data.toList)) [32]).toArray⟩ := by
  cases ws with
  | nil => rfl
  | cons x r =>
    have e := joinW_data r x
    rw [List.map_cons, Lib.join_cons, ← e]
theorem joinW_len : ∀ (r : List ByteArray) (x : ByteArray), (joinW (x :: r)).size = x.size + (r.map fun y => y.size + 1).sum
  | [], x => by simp [joinW]
  | y :: r, x => by
    rw [show x :: y :: r = [x] ++ (y :: r) from rfl, joinW_app (by simp) (by simp), ByteArray.size_append, ByteArray.size_append, joinW_len r y]
    show x.size + 1 + _ = _
    simp; omega
/-- Joined words are cut into just these. -/
theorem prt_joinW : ∀ (r : List ByteArray) (x : ByteArray), (∀ w ∈ x :: r, NoB 32 w) → prtD 32 (joinW (x :: r)) = x :: r
  | [], x, h => by
    unfold prtD
    rw [joinW_data, List.map_nil, show Lib.joinTail [32] [] = [] from rfl, List.append_nil, splD_end 32 _ _ (h x (by simp))]
    rfl
  | y :: r, x, h => by
    have ih := prt_joinW r y (fun w hw => h w (List.mem_cons_of_mem _ hw))
    unfold prtD at ih ⊢
    rw [joinW_data] at ih ⊢
    rw [List.map_cons, show Lib.joinTail [32] (y.data.toList :: r.map (·.data.toList)) = 32 :: (y.data.toList ++ Lib.joinTail [32] (r.map (·.data.toList))) by simp [Lib.joinTail]]
    rw [splD_cut 32 _ _ _ (h x (by simp)), List.map_cons, ih]
    rfl
theorem sw_nob (k : Int) : NoB 32 (sw k) := by
  unfold sw
  split
  · have hw : ∀ w ∈ stWs, NoB 32 w := by unfold NoB stWs; decide
    cases e : stWs[k.toNat]? with
    | none => intro c hc; cases hc
    | some w => exact hw w (List.mem_of_getElem? e)
  · intro c hc; cases hc
theorem cwd_nob (kd : Int) : NoB 32 (cwd kd) := by unfold cwd NoB; split <;> (try split) <;> (try split) <;> (try split) <;> decide
theorem clW_nob (kd ak : Int) (ky vl lo hi : ByteArray) (mo : Int) (bk : Bool) : ∀ w ∈ clW kd ak ky vl lo hi mo bk, NoB 32 w := by
  have g : NoB 32 wGet ∧ NoB 32 wPut ∧ NoB 32 wDel ∧ NoB 32 wScan ∧ NoB 32 wBack := by unfold NoB; decide
  obtain ⟨g1, g2, g3, g4, g5⟩ := g
  unfold clW
  split
  · unfold akW
    split
    · intro w hw; simp only [List.mem_cons, List.not_mem_nil, or_false] at hw; rcases hw with rfl | rfl; exact g1; exact wq_nob _
    · split
      · intro w hw; simp only [List.mem_cons, List.not_mem_nil, or_false] at hw; rcases hw with rfl | rfl | rfl; exact g2; exact wq_nob _; exact wq_nob _
      · split
        · intro w hw; simp only [List.mem_cons, List.not_mem_nil, or_false] at hw; rcases hw with rfl | rfl; exact g3; exact wq_nob _
        · intro w hw; simp only [List.mem_cons, List.not_mem_nil, or_false] at hw; rcases hw with rfl | rfl | rfl | rfl
          · cases bk <;> assumption
          · exact wq_nob _
          · exact wq_nob _
          · exact numS_nob _
  · intro w hw; simp only [List.mem_cons, List.not_mem_nil, or_false] at hw; subst hw; exact cwd_nob _
theorem stW_nob (s : ST) : ∀ w ∈ stW s, NoB 32 w := by
  intro w hw
  unfold stW at hw
  rcases List.mem_cons.1 hw with rfl | hw
  · exact sw_nob _
  · rcases List.mem_append.1 hw with hw | hw
    · split at hw
      · cases hw
      · simp only [List.mem_cons, List.not_mem_nil, or_false] at hw; subst hw; exact numS_nob _
    · split at hw
      · exact clW_nob _ _ _ _ _ _ _ _ w hw
      · split at hw
        · rcases List.mem_cons.1 hw with rfl | hw
          · exact numS_nob _
          · obtain ⟨n, hn, rfl⟩ := List.mem_map.1 hw; exact numS_nob _
        · cases hw
/-- What stands at a place of a list of words: nothing behind the last. -/
def rdW (W : List ByteArray) (i : Nat) : ByteArray := W[i]?.getD ⟨#[]⟩
/-- The call that is read. -/
def CCt := Int × Int × ByteArray × ByteArray × ByteArray × ByteArray × Int × Bool
def ccZ : CCt := (0, 0, ⟨#[]⟩, ⟨#[]⟩, ⟨#[]⟩, ⟨#[]⟩, 0, false)
def caI (w : ByteArray) (W : List ByteArray) : CCt :=
  if w = wGet then (2, 1, uqS (rdW W 0), ⟨#[]⟩, ⟨#[]⟩, ⟨#[]⟩, 0, false) else if w = wPut then (2, 2, uqS (rdW W 0), uqS (rdW W 1), ⟨#[]⟩, ⟨#[]⟩, 0, false)
  else if w = wDel then (2, 3, uqS (rdW W 0), ⟨#[]⟩, ⟨#[]⟩, ⟨#[]⟩, 0, false) else if w = wScan ∨ w = wBack then (2, 4, ⟨#[]⟩, ⟨#[]⟩, uqS (rdW W 0), uqS (rdW W 1), tgN (rdW W 2), decide (w = wBack))
  else (2, 0, ⟨#[]⟩, ⟨#[]⟩, ⟨#[]⟩, ⟨#[]⟩, 0, false)
def ccI (W : List ByteArray) : CCt :=
  if rdW W 0 = wBegin then (1, 0, ⟨#[]⟩, ⟨#[]⟩, ⟨#[]⟩, ⟨#[]⟩, 0, false) else if rdW W 0 = wCommit then (3, 0, ⟨#[]⟩, ⟨#[]⟩, ⟨#[]⟩, ⟨#[]⟩, 0, false)
  else if rdW W 0 = wAbort then (4, 0, ⟨#[]⟩, ⟨#[]⟩, ⟨#[]⟩, ⟨#[]⟩, 0, false) else caI (rdW W 0) (W.drop 1)
def ccS (W : List ByteArray) : CCt :=
  if rdW W 0 = wBegin then (1, 0, ⟨#[]⟩, ⟨#[]⟩, ⟨#[]⟩, ⟨#[]⟩, 0, false) else if rdW W 0 = wCommit then (3, 0, ⟨#[]⟩, ⟨#[]⟩, ⟨#[]⟩, ⟨#[]⟩, 0, false)
  else if rdW W 0 = wAbort then (4, 0, ⟨#[]⟩, ⟨#[]⟩, ⟨#[]⟩, ⟨#[]⟩, 0, false) else if rdW W 0 = wGet ∨ rdW W 0 = wPut ∨ rdW W 0 = wDel ∨ rdW W 0 = wScan ∨ rdW W 0 = wBack then caI (rdW W 0) (W.drop 1) else ccZ
def mkST (k a b : Int) (kp : List Int) (c : CCt) : ST := ⟨k, a, b, kp, c.1, c.2.1, c.2.2.1, c.2.2.2.1, c.2.2.2.2.1, c.2.2.2.2.2.1, c.2.2.2.2.2.2.1, c.2.2.2.2.2.2.2⟩
/-- The place of a word among the first words: 0 where it is none (so the specification), and -1 (so the program). -/
def kS (w : ByteArray) : Int := if w = wCall then 1 else if w = wDeliver then 2 else if w = wLose then 3 else if w = wDouble then 4 else if w = wTick then 5 else if w = wDown then 6 else if w = wTorn then 7 else if w = wUp then 8 else if w = wCalm then 9 else 0
def kI (w : ByteArray) : Int := if kS w = 0 ∧ w ≠ ⟨#[]⟩ then -1 else kS w
def stS (W : List ByteArray) : ST := mkST (kS (rdW W 0)) (tgN (rdW W 1)) (if kS (rdW W 0) = 7 then tgN (rdW W 2) else 0) (if kS (rdW W 0) = 7 then (W.drop 3).map tgN else []) (if kS (rdW W 0) = 1 ∧ 2 < W.length then ccS (W.drop 2) else ccZ)
def stI (W : List ByteArray) : ST := mkST (kI (rdW W 0)) (tgN (rdW W 1)) (if kI (rdW W 0) = 7 then tgN (rdW W 2) else 0) (if kI (rdW W 0) = 7 then (W.drop 3).map tgN else []) (if kI (rdW W 0) = 1 then ccI (W.drop 2) else ccZ)
theorem noE_mem {ws : List ByteArray} (h : noE ws = true) {w : ByteArray} (hw : w ∈ ws) : w ≠ ByteArray.empty := by
  have := List.all_eq_true.1 h w hw
  simpa using this
theorem stT_yes {s : ST} (h : stT s ≠ ⟨#[]⟩) : stWr s = true ∧ noE (stW s) = true ∧ stT s = joinW (stW s) := by
  unfold stT at h ⊢
  cases e : (stWr s && noE (stW s)) with
  | false => rw [e] at h; exact absurd rfl h
  | true =>
    have := (Bool.and_eq_true _ _).mp e
    exact ⟨this.1, this.2, rfl⟩
theorem sw_kind {k : Int} (h : sw k ≠ ByteArray.empty) : 1 ≤ k ∧ k ≤ 9 ∧ kS (sw k) = k ∧ kI (sw k) = k := by
  have a : 0 ≤ k := Classical.byContradiction fun q => h (by unfold sw; exact if_neg q)
  have b : k ≤ 9 := Classical.byContradiction fun q => h (by
    unfold sw; rw [if_pos a, List.getElem?_eq_none (by show 10 ≤ k.toNat; omega)]; rfl)
  have c : k ≠ 0 := fun q => h (by subst q; rfl)
  have hk : k = 1 ∨ k = 2 ∨ k = 3 ∨ k = 4 ∨ k = 5 ∨ k = 6 ∨ k = 7 ∨ k = 8 ∨ k = 9 := by omega
  rcases hk with rfl | rfl | rfl | rfl | rfl | rfl | rfl | rfl | rfl <;> decide
end Go.Proofs.YtjddkofpfmjojaaGreatDoor
/-
  Steps as words, in plain: what is read of a step's words is that step, on both sides.
-/
namespace Go.Proofs.YtjddkofpfmjojaaGreatDoor
open Go.RowKit
set_option linter.unusedVariables false
theorem wb_nil {s : ByteArray} : s.toList = [] ↔ s.size = 0 := by
  rw [ByteArray.toList_eq, ← List.length_eq_zero_iff, Array.length_toList]; rfl
theorem isE_nil {s : ByteArray} (h : isE s = true) : s = ⟨#[]⟩ := by
  have h1 : s.toList = [] := by simpa [isE] using h
  have h2 : s.size = 0 := wb_nil.1 h1
  exact ByteArray.size_eq_zero_iff.1 h2
theorem akZ_nil {ak : Int} {ky vl lo hi : ByteArray} {mo : Int} {bk : Bool} (h : akZ ak ky vl lo hi mo bk = true) : ak = 0 ∧ ky = ⟨#[]⟩ ∧ vl = ⟨#[]⟩ ∧ lo = ⟨#[]⟩ ∧ hi = ⟨#[]⟩ ∧ mo = 0 ∧ bk = false := by
  unfold akZ at h
  simp only [Bool.and_eq_true, decide_eq_true_eq, Bool.not_eq_true'] at h
  obtain ⟨h0, h1, h2, ⟨h3, h4⟩, h5, h6⟩ := h
  exact ⟨h0, isE_nil h1, isE_nil h2, isE_nil h3, isE_nil h4, h5, h6⟩
theorem akK_nil {ky vl lo hi : ByteArray} {mo : Int} {bk : Bool} (h : akK ky vl lo hi mo bk = true) : lo = ⟨#[]⟩ ∧ hi = ⟨#[]⟩ ∧ mo = 0 ∧ bk = false ∧ uOk ky = true ∧ uvOk vl = true := by
  unfold akK at h
  simp only [Bool.and_eq_true, decide_eq_true_eq, Bool.not_eq_true'] at h
  obtain ⟨h0, h1, ⟨h3, h4⟩, h5, h6⟩ := h
  exact ⟨isE_nil h3, isE_nil h4, h5, h6, h0, h1⟩
theorem clZ_nil {kd ak : Int} {ky vl lo hi : ByteArray} {mo : Int} {bk : Bool} (h : clZ kd ak ky vl lo hi mo bk = true) : kd = 0 ∧ ak = 0 ∧ ky = ⟨#[]⟩ ∧ vl = ⟨#[]⟩ ∧ lo = ⟨#[]⟩ ∧ hi = ⟨#[]⟩ ∧ mo = 0 ∧ bk = false := by
  unfold clZ at h
  simp only [Bool.and_eq_true, decide_eq_true_eq] at h
  exact ⟨h.1, akZ_nil h.2⟩
/-- The kinds of an ask that is right, and what isn't used of it. -/
theorem akOk_cases {ak : Int} {ky vl lo hi : ByteArray} {mo : Int} {bk : Bool} (h : akOk ak ky vl lo hi mo bk = true) :
    (ak = 1 ∧ vl = ⟨#[]⟩ ∧ lo = ⟨#[]⟩ ∧ hi = ⟨#[]⟩ ∧ mo = 0 ∧ bk = false ∧ ky.size ≤ 8) ∨ (ak = 2 ∧ lo = ⟨#[]⟩ ∧ hi = ⟨#[]⟩ ∧ mo = 0 ∧ bk = false ∧ ky.size ≤ 8 ∧ vl.size ≤ 20) ∨ (ak = 3 ∧ vl = ⟨#[]⟩ ∧ lo = ⟨#[]⟩ ∧ hi = ⟨#[]⟩ ∧ mo = 0 ∧ bk = false ∧ ky.size ≤ 8) ∨ (ak = 4 ∧ ky = ⟨#[]⟩ ∧ vl = ⟨#[]⟩ ∧ 1 ≤ mo ∧ mo ≤ 8 ∧ lo.size ≤ 9 ∧ hi.size ≤ 9) := by
  have huk : ∀ {s : ByteArray}, uOk s = true → s.size ≤ 8 := fun h => by
    unfold uOk at h
    simp only [Bool.and_eq_true, decide_eq_true_eq] at h
    exact h.2
  by_cases h1 : ak = 1
  · subst h1
    rw [akOk_1, Bool.and_eq_true] at h
    have k := akK_nil h.2
    exact .inl ⟨rfl, isE_nil h.1, k.1, k.2.1, k.2.2.1, k.2.2.2.1, huk k.2.2.2.2.1⟩
  by_cases h2 : ak = 2
  · subst h2
    rw [akOk_2] at h
    have k := akK_nil h
    refine .inr (.inl ⟨rfl, k.1, k.2.1, k.2.2.1, k.2.2.2.1, huk k.2.2.2.2.1, ?_⟩)
    have := k.2.2.2.2.2
    unfold uvOk at this
    simpa using this
  by_cases h3 : ak = 3
  · subst h3
    rw [akOk_3, Bool.and_eq_true] at h
    have k := akK_nil h.2
    exact .inr (.inr (.inl ⟨rfl, isE_nil h.1, k.1, k.2.1, k.2.2.1, k.2.2.2.1, huk k.2.2.2.2.1⟩))
  by_cases h4 : ak = 4
  · subst h4
    rw [akOk_4] at h
    unfold akS rchOk at h
    simp only [Bool.and_eq_true, decide_eq_true_eq] at h
    obtain ⟨⟨m1, m2⟩, ⟨_, r1, r2⟩, e1, e2⟩ := h
    exact .inr (.inr (.inr ⟨rfl, isE_nil e1, isE_nil e2, m1, m2, r1, r2⟩))
  rw [akOk_no h1 h2 h3 h4] at h
  cases h
theorem clOk_sizes {kd ak : Int} {ky vl lo hi : ByteArray} {mo : Int} {bk : Bool} (h : clOk kd ak ky vl lo hi mo bk = true) : ky.size ≤ 1048576 ∧ vl.size ≤ 1048576 ∧ lo.size ≤ 1048576 ∧ hi.size ≤ 1048576 := by
  have e0 : (⟨#[]⟩ : ByteArray).size = 0 := rfl
  unfold clOk at h
  by_cases h2 : kd = 2
  · rw [if_pos h2] at h
    rcases akOk_cases h with ⟨_, rfl, rfl, rfl, _, _, hk⟩ | ⟨_, rfl, rfl, _, _, hk, hv⟩ | ⟨_, rfl, rfl, rfl, _, _, hk⟩ | ⟨_, rfl, rfl, _, _, r1, r2⟩ <;> omega
  · rw [if_neg h2] at h
    by_cases h3 : kd = 1 ∨ kd = 3 ∨ kd = 4
    · rw [if_pos h3] at h
      obtain ⟨_, rfl, rfl, rfl, rfl, _, _⟩ := akZ_nil h
      omega
    · rw [if_neg h3] at h; cases h
/-- The words of a right call: none is empty. -/
theorem clW_ne {kd ak : Int} {ky vl lo hi : ByteArray} {mo : Int} {bk : Bool} (h : clOk kd ak ky vl lo hi mo bk = true) : noE (clW kd ak ky vl lo hi mo bk) = true := by
  have hq : ∀ {s : ByteArray}, s.size ≤ 4096 → (decide (qt s ≠ ByteArray.empty)) = true := fun {s} h => by
    have := wq_pos s h
    simp only [decide_eq_true_eq, ne_eq]
    intro e
    rw [e] at this
    exact absurd this (by decide)
  unfold clOk at h
  unfold clW
  by_cases h2 : kd = 2
  · rw [if_pos h2] at h ⊢
    rcases akOk_cases h with ⟨rfl, _, _, _, _, _, hk⟩ | ⟨rfl, _, _, _, _, hk, hv⟩ | ⟨rfl, _, _, _, _, _, hk⟩ | ⟨rfl, _, _, m1, m2, r1, r2⟩
    · show ([wGet, qt ky].all _) = true
      simp only [List.all_cons, List.all_nil, hq (show ky.size ≤ 4096 by omega)]
      decide
    · show ([wPut, qt ky, qt vl].all _) = true
      simp only [List.all_cons, List.all_nil, hq (show ky.size ≤ 4096 by omega), hq (show vl.size ≤ 4096 by omega)]
      decide
    · show ([wDel, qt ky].all _) = true
      simp only [List.all_cons, List.all_nil, hq (show ky.size ≤ 4096 by omega)]
      decide
    · show ([if bk then wBack else wScan, qt lo, qt hi, numS mo].all _) = true
      have hn : decide (numS mo ≠ ByteArray.empty) = true := by
        simp only [decide_eq_true_eq, ne_eq, numS_zero]
        omega
      simp only [List.all_cons, List.all_nil, hq (show lo.size ≤ 4096 by omega), hq (show hi.size ≤ 4096 by omega), hn]
      cases bk <;> decide
  · rw [if_neg h2] at h ⊢
    by_cases h3 : kd = 1 ∨ kd = 3 ∨ kd = 4
    · rcases h3 with rfl | rfl | rfl <;> rfl
    · rw [if_neg h3] at h; cases h
theorem rcv_call {kd ak : Int} {ky vl lo hi : ByteArray} {mo : Int} {bk : Bool} (h : clOk kd ak ky vl lo hi mo bk = true) : ccI (clW kd ak ky vl lo hi mo bk) = (kd, ak, ky, vl, lo, hi, mo, bk) ∧ ccS (clW kd ak ky vl lo hi mo bk) = (kd, ak, ky, vl, lo, hi, mo, bk) := by
  have hE := clW_ne h
  unfold clOk at h
  unfold clW at hE ⊢
  by_cases h2 : kd = 2
  · rw [if_pos h2] at h hE ⊢
    subst h2
    rcases akOk_cases h with ⟨rfl, rfl, rfl, rfl, rfl, rfl, hk⟩ | ⟨rfl, rfl, rfl, rfl, rfl, hk, hv⟩ | ⟨rfl, rfl, rfl, rfl, rfl, rfl, hk⟩ | ⟨rfl, rfl, rfl, m1, m2, r1, r2⟩
    · have e : ∀ X, caI wGet X = (2, 1, uqS (rdW X 0), ⟨#[]⟩, ⟨#[]⟩, ⟨#[]⟩, 0, false) := fun X => rfl
      have u := uqS_qt ky (noE_mem hE (by show qt ky ∈ [wGet, qt ky]; simp))
      have k : caI wGet [qt ky] = (2, 1, ky, ⟨#[]⟩, ⟨#[]⟩, ⟨#[]⟩, 0, false) := by rw [e]; show (_, _, uqS (qt ky), _) = _; rw [u]
      exact ⟨k, k⟩
    · have e : ∀ X, caI wPut X = (2, 2, uqS (rdW X 0), uqS (rdW X 1), ⟨#[]⟩, ⟨#[]⟩, 0, false) := fun X => rfl
      have u := uqS_qt ky (noE_mem hE (by show qt ky ∈ [wPut, qt ky, qt vl]; simp))
      have u2 := uqS_qt vl (noE_mem hE (by show qt vl ∈ [wPut, qt ky, qt vl]; simp))
      have k : caI wPut [qt ky, qt vl] = (2, 2, ky, vl, ⟨#[]⟩, ⟨#[]⟩, 0, false) := by rw [e]; show (_, _, uqS (qt ky), uqS (qt vl), _) = _; rw [u, u2]
      exact ⟨k, k⟩
    · have e : ∀ X, caI wDel X = (2, 3, uqS (rdW X 0), ⟨#[]⟩, ⟨#[]⟩, ⟨#[]⟩, 0, false) := fun X => rfl
      have u := uqS_qt ky (noE_mem hE (by show qt ky ∈ [wDel, qt ky]; simp))
      have k : caI wDel [qt ky] = (2, 3, ky, ⟨#[]⟩, ⟨#[]⟩, ⟨#[]⟩, 0, false) := by rw [e]; show (_, _, uqS (qt ky), _) = _; rw [u]
      exact ⟨k, k⟩
    · have hs : akW 4 ⟨#[]⟩ ⟨#[]⟩ lo hi mo bk = [if bk then wBack else wScan, qt lo, qt hi, numS mo] := rfl
      rw [hs] at hE ⊢
      have u := uqS_qt lo (noE_mem hE (by simp))
      have u2 := uqS_qt hi (noE_mem hE (by simp))
      have u3 := tgN_numS mo (noE_mem hE (by simp))
      have e : ∀ X, caI wScan X = (2, 4, ⟨#[]⟩, ⟨#[]⟩, uqS (rdW X 0), uqS (rdW X 1), tgN (rdW X 2), false) := fun X => rfl
      have e2 : ∀ X, caI wBack X = (2, 4, ⟨#[]⟩, ⟨#[]⟩, uqS (rdW X 0), uqS (rdW X 1), tgN (rdW X 2), true) := fun X => rfl
      cases bk with
      | false =>
        have k : caI wScan [qt lo, qt hi, numS mo] = (2, 4, ⟨#[]⟩, ⟨#[]⟩, lo, hi, mo, false) := by rw [e]; show (_, _, _, _, uqS (qt lo), uqS (qt hi), tgN (numS mo), _) = _; rw [u, u2, u3]
        exact ⟨k, k⟩
      | true =>
        have k : caI wBack [qt lo, qt hi, numS mo] = (2, 4, ⟨#[]⟩, ⟨#[]⟩, lo, hi, mo, true) := by rw [e2]; show (_, _, _, _, uqS (qt lo), uqS (qt hi), tgN (numS mo), _) = _; rw [u, u2, u3]
        exact ⟨k, k⟩
  · rw [if_neg h2] at h ⊢
    by_cases h3 : kd = 1 ∨ kd = 3 ∨ kd = 4
    · rw [if_pos h3] at h
      obtain ⟨rfl, rfl, rfl, rfl, rfl, rfl, rfl⟩ := akZ_nil h
      rcases h3 with rfl | rfl | rfl <;> exact ⟨rfl, rfl⟩
    · rw [if_neg h3] at h; cases h
theorem map_tgN : ∀ (l : List Int), (∀ w ∈ l.map numS, w ≠ ByteArray.empty) → (l.map numS).map tgN = l
  | [], _ => rfl
  | n :: l, h => by
    rw [List.map_cons, List.map_cons, tgN_numS n (h _ (by simp)), map_tgN l (fun w hw => h w (by simp at hw ⊢; exact .inr hw))]
/-- What is read of the words of a step that has a text. -/
theorem read_stW (s : ST) (h : stT s ≠ ⟨#[]⟩) : stS (stW s) = s ∧ stI (stW s) = s := by
  obtain ⟨hw, hE, _⟩ := stT_yes h
  obtain ⟨k, a, b, kp, kd, ak, ky, vl, lo, hi, mo, bk⟩ := s
  have h0 : rdW (stW ⟨k, a, b, kp, kd, ak, ky, vl, lo, hi, mo, bk⟩) 0 = sw k := rfl
  obtain ⟨k1, k9, ks, ki⟩ := sw_kind (k := k) (noE_mem hE (by show _ ∈ stW _; exact List.mem_cons_self ..))
  unfold stS stI
  rw [h0, ks, ki]
  unfold stWr at hw
  dsimp only at hw
  by_cases e1 : k = 1
  · subst e1
    rw [if_pos rfl] at hw
    simp only [Bool.and_eq_true, decide_eq_true_eq] at hw
    obtain ⟨rfl, rfl, hc⟩ := hw
    have hl : stW ⟨1, a, 0, [], kd, ak, ky, vl, lo, hi, mo, bk⟩ = sw 1 :: numS a :: clW kd ak ky vl lo hi mo bk := rfl
    rw [hl] at hE ⊢
    have ha := tgN_numS a (noE_mem hE (by simp))
    obtain ⟨c1, c2⟩ := rcv_call hc
    have hlen : 2 < (sw 1 :: numS a :: clW kd ak ky vl lo hi mo bk).length := by
      have : 0 < (clW kd ak ky vl lo hi mo bk).length := by
        unfold clW akW
        split <;> (try split) <;> (try split) <;> (try split) <;> simp
      simp only [List.length_cons]; omega
    rw [if_neg (show ¬ (1 : Int) = 7 by decide), if_neg (show ¬ (1 : Int) = 7 by decide), if_pos ⟨rfl, hlen⟩, if_pos rfl]
    show mkST 1 (tgN (numS a)) 0 [] (ccS (clW kd ak ky vl lo hi mo bk)) = _ ∧ mkST 1 (tgN (numS a)) 0 [] (ccI (clW kd ak ky vl lo hi mo bk)) = _
    rw [c1, c2, ha]
    exact ⟨rfl, rfl⟩
  · rw [if_neg e1] at hw
    by_cases e7 : k = 7
    · subst e7
      rw [if_pos rfl] at hw
      obtain ⟨rfl, rfl, rfl, rfl, rfl, rfl, rfl, rfl⟩ := clZ_nil hw
      have hl : stW ⟨7, a, b, kp, 0, 0, ⟨#[]⟩, ⟨#[]⟩, ⟨#[]⟩, ⟨#[]⟩, 0, false⟩ = sw 7 :: numS a :: numS b :: kp.map numS := rfl
      rw [hl] at hE ⊢
      have ha := tgN_numS a (noE_mem hE (by simp))
      have hb := tgN_numS b (noE_mem hE (by simp))
      have hk := map_tgN kp (fun w hw => noE_mem hE (by simp at hw ⊢; exact .inr (.inr (.inr hw))))
      rw [if_pos rfl, if_pos rfl, if_neg (show ¬ ((7 : Int) = 1 ∧ 2 < (sw 7 :: numS a :: numS b :: kp.map numS).length) from fun h => absurd h.1 (by decide)), if_neg (show ¬ (7 : Int) = 1 by decide)]
      show mkST 7 (tgN (numS a)) (tgN (numS b)) ((kp.map numS).map tgN) ccZ = _ ∧ mkST 7 (tgN (numS a)) (tgN (numS b)) ((kp.map numS).map tgN) ccZ = _
      rw [ha, hb, hk]
      exact ⟨rfl, rfl⟩
    · rw [if_neg e7] at hw
      simp only [Bool.and_eq_true, decide_eq_true_eq, Bool.or_eq_true] at hw
      obtain ⟨h5, rfl, rfl, hz⟩ := hw
      obtain ⟨rfl, rfl, rfl, rfl, rfl, rfl, rfl, rfl⟩ := clZ_nil hz
      rw [if_neg e7, if_neg e7, if_neg (by rintro ⟨q, _⟩; exact e1 q), if_neg e1]
      have hl : stW ⟨k, a, 0, [], 0, 0, ⟨#[]⟩, ⟨#[]⟩, ⟨#[]⟩, ⟨#[]⟩, 0, false⟩ = sw k :: ((if k = 5 then [] else [numS a]) ++ []) := by
        unfold stW
        dsimp only
        rw [if_neg e1, if_neg e7]
      rw [hl] at hE ⊢
      by_cases e5 : k = 5
      · subst e5
        have : a = 0 := by rcases h5 with h5 | h5; exact absurd rfl h5; exact h5
        subst this
        show mkST 5 (tgN ByteArray.empty) 0 [] ccZ = _ ∧ mkST 5 (tgN ByteArray.empty) 0 [] ccZ = _
        rw [tgN_nil]
        exact ⟨rfl, rfl⟩
      · rw [if_neg e5] at hE ⊢
        have ha := tgN_numS a (noE_mem hE (by simp))
        show mkST k (tgN (numS a)) 0 [] ccZ = _ ∧ mkST k (tgN (numS a)) 0 [] ccZ = _
        rw [ha]
        exact ⟨rfl, rfl⟩
/-- The step whose text is s, by what is read of its words. -/
def tsV (s : ByteArray) : Option ST := if s ≠ ⟨#[]⟩ ∧ stT (stS (prtD 32 s)) = s then some (stS (prtD 32 s)) else none
theorem stW_prt (y : ST) (h : stT y ≠ ⟨#[]⟩) : prtD 32 (stT y) = stW y := by
  obtain ⟨_, _, e⟩ := stT_yes h
  rw [e]
  unfold stW
  exact prt_joinW _ _ (stW_nob y)
theorem tsV_S (s : ByteArray) : (s ≠ ⟨#[]⟩ ∧ stT (stS (prtD 32 s)) = s → tsV s = some (stS (prtD 32 s))) ∧ (¬ (s ≠ ⟨#[]⟩ ∧ stT (stS (prtD 32 s)) = s) → tsV s = none) := ⟨fun h => if_pos h, fun h => if_neg h⟩
/-- The program's reading tells the same, be L the words where they are joined to s. -/
theorem tsV_I (s : ByteArray) (L : List ByteArray) (hL : ∀ y, stT y = s → s ≠ ⟨#[]⟩ → L = stW y) : (s ≠ ⟨#[]⟩ ∧ stT (stI L) = s → tsV s = some (stI L)) ∧ (¬ (s ≠ ⟨#[]⟩ ∧ stT (stI L) = s) → tsV s = none) := by
  constructor
  · rintro ⟨h1, h2⟩
    have hn : stT (stI L) ≠ ⟨#[]⟩ := by rw [h2]; exact h1
    have e := (read_stW _ hn).1
    have p := stW_prt _ hn
    rw [h2] at p
    have k : stS (prtD 32 s) = stI L := by rw [p]; exact e
    unfold tsV
    rw [k, if_pos ⟨h1, h2⟩]
  · intro h
    unfold tsV
    refine if_neg fun ⟨h1, h2⟩ => h ⟨h1, ?_⟩
    have hn : stT (stS (prtD 32 s)) ≠ ⟨#[]⟩ := by rw [h2]; exact h1
    have e := (read_stW _ hn).2
    rw [hL _ h2 h1, e]
    exact h2
end Go.Proofs.YtjddkofpfmjojaaGreatDoor
/-
  A text cut by a closure that keeps its place: what it tells, call by call.
-/
namespace Go.Proofs.YtjddkofpfmjojaaGreatDoor
open Go.RowKit
set_option linter.unusedVariables false
/-- The last of a list is taken away, if it is empty. -/
def cutE : List (List UInt8) → List (List UInt8)
  | [] => []
  | [x] => if x = [] then [] else [x]
  | x :: y :: r => x :: cutE (y :: r)
theorem cutE_cons (x : List UInt8) {l : List (List UInt8)} (h : l ≠ []) : cutE (x :: l) = x :: cutE l := by
  cases l with
  | nil => exact absurd rfl h
  | cons y r => rfl
/-- The pieces of a text: what each byte d ends, and what stands behind the last one, if it isn't empty. -/
def pcD (d : UInt8) (l : List UInt8) : List (List UInt8) := cutE (splD d [] l)
theorem pcD_nil (d : UInt8) : pcD d [] = [] := rfl
theorem span_split (d : UInt8) : ∀ (l : List UInt8), (∀ c ∈ l, c ≠ d) ∨ ∃ xs ys, l = xs ++ d :: ys ∧ ∀ c ∈ xs, c ≠ d
  | [] => .inl (fun c hc => by cases hc)
  | x :: l => by
    by_cases h : x = d
    · subst h; exact .inr ⟨[], l, rfl, fun c hc => by cases hc⟩
    · rcases span_split d l with k | ⟨xs, ys, rfl, k⟩
      · refine .inl fun c hc => ?_
        rcases List.mem_cons.1 hc with rfl | hc
        · exact h
        · exact k c hc
      · refine .inr ⟨x :: xs, ys, rfl, fun c hc => ?_⟩
        rcases List.mem_cons.1 hc with rfl | hc
        · exact h
        · exact k c hc
theorem pcD_cut (d : UInt8) (xs ys : List UInt8) (h : ∀ c ∈ xs, c ≠ d) : pcD d (xs ++ d :: ys) = xs :: pcD d ys := by
  unfold pcD
  rw [splD_cut d ys xs [] h, cutE_cons _ (splD_ne d ys [])]
  rfl
theorem pcD_end (d : UInt8) (xs : List UInt8) (h : ∀ c ∈ xs, c ≠ d) (hn : xs ≠ []) : pcD d xs = [xs] := by
  unfold pcD
  rw [splD_end d xs [] h]
  simp [cutE, hn]
/-- The pieces behind place k of a text. -/
def pcK (d : UInt8) (s : ByteArray) (k : Nat) : List ByteArray := (pcD d (s.data.toList.drop k)).map fun l => ⟨l.toArray⟩
theorem pcK_end (d : UInt8) (s : ByteArray) (k : Nat) (h : s.size ≤ k) : pcK d s k = [] := by
  unfold pcK
  rw [List.drop_eq_nil_of_le (by rw [show s.data.toList.length = s.size from Array.length_toList]; exact h)]
  rfl
/-- From place f to place k there is no byte d, and one stands at k, or the text ends there: the piece, and what is left. -/
theorem pcK_step (d : UInt8) (s : ByteArray) (f k : Nat) (hf : f < s.size) (hk : f ≤ k) (hk2 : k ≤ s.size) (h : ∀ j (hj : j < s.size), f ≤ j → j < k → s[j] ≠ d) (he : k = s.size ∨ ∃ hk3 : k < s.size, s[k] = d) :
    pcK d s f = s.extract f k :: pcK d s (k + 1) := by
  have hl : s.data.toList.length = s.size := Array.length_toList
  have hx : ∀ c ∈ (s.data.toList.drop f).take (k - f), c ≠ d := by
    intro c hc
    obtain ⟨i, hi, rfl⟩ := List.getElem_of_mem hc
    simp only [List.length_take, List.length_drop, hl] at hi
    have := h (f + i) (by omega) (by omega) (by omega)
    have e2 : ((s.data.toList.drop f).take (k - f))[i]'(by simp only [List.length_take, List.length_drop, hl]; omega) = s[f + i]'(by omega) := by simp; rfl
    rw [e2]
    exact this
  have hsp : s.data.toList.drop f = (s.data.toList.drop f).take (k - f) ++ s.data.toList.drop k := by
    conv => lhs; rw [← List.take_append_drop (k - f) (s.data.toList.drop f)]
    rw [List.drop_drop, show f + (k - f) = k by omega]
  have hex : (⟨((s.data.toList.drop f).take (k - f)).toArray⟩ : ByteArray) = s.extract f k := by rw [Lib.extract_eq]
  unfold pcK
  rcases he with rfl | ⟨hk3, hd⟩
  · rw [List.drop_eq_nil_of_le (by omega : s.data.toList.length ≤ s.size), List.append_nil] at hsp
    rw [List.drop_eq_nil_of_le (by omega : s.data.toList.length ≤ s.size + 1), hsp, pcD_end d _ hx (by
      intro e
      have := congrArg List.length e
      simp only [List.length_take, List.length_drop, hl, List.length_nil] at this
      omega), pcD_nil, List.map_cons, hex]
  · have hdk : s.data.toList.drop k = d :: s.data.toList.drop (k + 1) := by
      rw [List.drop_eq_getElem_cons (by omega)]
      congr 1
    rw [hsp, hdk, pcD_cut d _ _ hx, List.map_cons, hex]
/-- Where the text is joined of words, its pieces are these. -/
theorem pc_joinW : ∀ (r : List ByteArray) (x : ByteArray), (∀ w ∈ x :: r, NoB 32 w ∧ w ≠ ByteArray.empty) → pcK 32 (joinW (x :: r)) 0 = x :: r := by
  intro r x h
  have e := prt_joinW r x (fun w hw => (h w hw).1)
  unfold prtD at e
  unfold pcK pcD
  rw [List.drop_zero]
  have hne : ∀ l ∈ splD 32 [] (joinW (x :: r)).data.toList, l ≠ [] := by
    intro l hl q
    subst q
    have hm : (⟨#[]⟩ : ByteArray) ∈ x :: r := by
      rw [← e]
      exact List.mem_map.2 ⟨[], hl, rfl⟩
    exact (h _ hm).2 rfl
  have hc : ∀ L : List (List UInt8), (∀ l ∈ L, l ≠ []) → cutE L = L := by
    intro L
    induction L with
    | nil => intro _; rfl
    | cons a q ih =>
      intro hq
      cases q with
      | nil => simp [cutE, hq a (by simp)]
      | cons b t => rw [cutE_cons _ (by simp), ih (fun l hl => hq l (List.mem_cons_of_mem _ hl))]
  rw [hc _ hne]
  exact e
theorem pc_stW (y : ST) (h : stT y ≠ ⟨#[]⟩) : pcK 32 (stT y) 0 = stW y := by
  obtain ⟨_, hE, e⟩ := stT_yes h
  rw [e]
  have hn := stW_nob y
  unfold stW at hE hn ⊢
  exact pc_joinW _ _ (fun w hw => ⟨hn w hw, noE_mem hE hw⟩)
/-- The closure stands at the boxes g (the text), g + 1 (the mark), g + 2 (the place), and L is left. -/
def PS (w : World) (g : Nat) (s : ByteArray) (d : UInt8) (L : List ByteArray) : Prop := ∃ k : Nat, k ≤ s.size + 1 ∧ Bk w g 9 [.string s] ∧ Bk w (g + 1) 21 [.int .i32 d.toNat] ∧ Bk w (g + 2) 3 [.int .i64 k] ∧ pcK d s k = L
theorem PS.to {w w' : World} {g : Nat} {s : ByteArray} {d : UInt8} {L : List ByteArray} {R : Nat → Prop} (h : PS w g s d L) (ho : Only R w w') (h0 : ¬ R g) (h1 : ¬ R (g + 1)) (h2 : ¬ R (g + 2)) : PS w' g s d L := by
  obtain ⟨k, a, b, c, e, f⟩ := h
  exact ⟨k, a, b.to ho h0, c.to ho h1, e.to ho h2, f⟩
theorem PS.below {w w' : World} {g : Nat} {s : ByteArray} {d : UInt8} {L : List ByteArray} (h : PS w g s d L) (hb : Below w.heap.size w w') : PS w' g s d L := h.to (only_of_below hb (fun _ => False)) (fun h => h) (fun h => h) (fun h => h)
theorem PS.lt {w : World} {g : Nat} {s : ByteArray} {d : UInt8} {L : List ByteArray} (h : PS w g s d L) : g + 2 < w.heap.size := by
  obtain ⟨k, a, b, c, e, f⟩ := h
  exact e.lt
/-- The closure's value. -/
def nextV (g : Nat) : Value := .func (.func 42) #[] #[.pointer (some ⟨g + 2, 0, none⟩), .pointer (some ⟨g, 0, none⟩), .pointer (some ⟨g + 1, 0, none⟩)]
theorem rdW_cons (x : ByteArray) (r : List ByteArray) : rdW (x :: r) 0 = x := rfl
end Go.Proofs.YtjddkofpfmjojaaGreatDoor
/-
  What the program's Quote answers, for every string: the same as the model's.
-/
namespace Go.Proofs.YtjddkofpfmjojaaGreatDoor
open Go.RowKit

theorem get_hex (d : Int) (h0 : 0 ≤ d) (h1 : d < 16) (h : d.toNat < (⟨#[48, 49, 50, 51, 52, 53, 54, 55, 56, 57, 65, 66, 67, 68, 69, 70]⟩ : ByteArray).size) :
    (((⟨#[48, 49, 50, 51, 52, 53, 54, 55, 56, 57, 65, 66, 67, 68, 69, 70]⟩ : ByteArray)[d.toNat]'h).toNat : Int) = hexD d := by
  have : d = 0 ∨ d = 1 ∨ d = 2 ∨ d = 3 ∨ d = 4 ∨ d = 5 ∨ d = 6 ∨ d = 7 ∨ d = 8 ∨ d = 9 ∨ d = 10 ∨ d = 11 ∨ d = 12 ∨ d = 13 ∨ d = 14 ∨ d = 15 := by omega
  rcases this with rfl | rfl | rfl | rfl | rfl | rfl | rfl | rfl | rfl | rfl | rfl | rfl | rfl | rfl | rfl | rfl
  all_goals rfl
theorem wrap_div (z : Int) (h0 : 0 ≤ z) (h1 : z ≤ 255) : IntKind.u8.wrap (z.tdiv 16) = z / 16 := by
  rw [Int.tdiv_eq_ediv_of_nonneg h0]
  simp [IntKind.wrap, IntKind.signed, IntKind.bits]
  omega
theorem wrap_mod (z : Int) (h0 : 0 ≤ z) : IntKind.u8.wrap (z.tmod 16) = z % 16 := by
  rw [Int.tmod_eq_emod_of_nonneg h0]
  simp [IntKind.wrap, IntKind.signed, IntKind.bits]
  omega

theorem Wr.drew {w : World} {g most : Nat} {st : Option (List Int)} (h : Wr w g most st) : Wr w.drew g most st := h
theorem Rd.drew {w : World} {a : Option Addr} {n c : Nat} {zs : List Int} (h : Rd w a n c zs) : Rd w.drew a n c zs := h

set_option maxHeartbeats 800000 in
theorem quoted_any (g most : Nat) (st : Option (List Int)) (z : Int) (w : World) (h : Wr w g most st) (he : Err w 3) (hg : 3 < g) (h0 : 0 ≤ z) (h1 : z ≤ 255) :
    Calls Tryz.prog 105 #[.pointer (some ⟨g, 0, none⟩), .int .u8 z] w fun e w' => e = .returned (.tuple #[]) ∧ Below g w w' ∧ Wr w' g most (addSt most st (qb z)) := by
  have hlt := h.lt
  have HW := hid h
  have HE := hid he
  clear h he
  cases hpl : isPl z with
  | true =>
    have HQ : Hid (qb z = [z]) := by show qb z = [z]; unfold qb; rw [if_pos hpl]
    have HC := hid (show Calls Tryz.prog 98 #[.int .u8 z] w fun e w' => e = .returned (.bool true) ∧ w = w' by rw [← hpl]; exact isPlain_any z w)
    clear hpl
    go_enter Tryz.func105, Tryz.ntmps105
    go_wp2_with (first
      | (go_at_call 98; refine HC.out.mono ?_; rintro e w' ⟨rfl, rfl⟩)
      | (go_at_call 99; refine (addByte_any g most st z w HW.out HE.out hg h0 h1).mono ?_; rintro e w2 ⟨rfl, hb2, hw2⟩))
    exact bodyPost_ret (results_none rfl _ _ _) rfl ⟨rfl, hb2, by rw [HQ.out]; exact hw2⟩
  | false =>
    have HQ : Hid (qb z = [37, hexD (z / 16), hexD (z % 16)]) := by show qb z = _; unfold qb; rw [hpl]; rfl
    have HC := hid (show Calls Tryz.prog 98 #[.int .u8 z] w fun e w' => e = .returned (.bool false) ∧ w = w' by rw [← hpl]; exact isPlain_any z w)
    clear hpl
    have HX := hid (hexD_byte (z / 16) (by omega) (by omega))
    have HY := hid (hexD_byte (z % 16) (by omega) (by omega))
    go_enter Tryz.func105, Tryz.ntmps105
    go_wp2_with (go_at_call 98; refine HC.out.mono ?_; rintro e w' ⟨rfl, rfl⟩)
    have q1 : 0 ≤ z / 16 := by omega
    have q2 : z / 16 < 16 := by omega
    have q3 : 0 ≤ z % 16 := by omega
    have q4 : z % 16 < 16 := by omega
    have e1 := wrap_div z h0 h1
    have e2 := wrap_mod z h0
    have e5 : z.tmod 16 = z % 16 := Int.tmod_eq_emod_of_nonneg h0
    have e3 := get_hex (z / 16) q1 q2
    have e4 := get_hex (z % 16) q3 q4
    have HA := hid (add_any g most st _ 3 3 [37, hexD (z / 16), hexD (z % 16)] (w.alloc (.cells #[.int .u8 37, .int .u8 (hexD (z / 16)), .int .u8 (hexD (z % 16))] 5)).drew (HW.out.alloc _).drew (HE.out.below ((Below.refl g w).alloc (Nat.le_of_lt hlt) _).drew hg) (rd_three w _ _ _ (by omega) HX.out HY.out).drew (by omega))
    go_region_with (go_at_call 97; refine HA.out.mono ?_; rintro e w2 ⟨rfl, hb2, hw2⟩)
    all_goals
      go_end0
      exact ⟨rfl, ((Below.refl g w).alloc (Nat.le_of_lt hlt) _).drew.trans hb2, by rw [HQ.out]; exact hw2⟩

theorem addSt_ok (most : Nat) (zs ys : List Int) (h : zs.length + ys.length ≤ most) : addSt most (some zs) ys = some (zs ++ ys) := by
  have e : addSt most (some zs) ys = if zs.length + ys.length ≤ most then some (zs ++ ys) else none := rfl
  rw [e, if_pos h]

set_option maxHeartbeats 1000000 in
theorem implQuote_any (s : ByteArray) (w : World) (hs : s.size ≤ 1048576) (he : Err w 3) (hg : 3 < w.heap.size) :
    Calls Tryz.prog 89 #[.string s] w fun e w' => e = .returned (.string (qt s)) ∧ Below w.heap.size w w' := by
  by_cases hbig : 4096 < s.size
  · have HQ : Hid (qt s = ByteArray.empty) := by show qt s = ByteArray.empty; unfold qt; exact if_neg (by omega)
    have hb' : (4096 : Int) < (s.size : Int) := by omega
    clear he hg
    go_enter Tryz.func89, Tryz.ntmps89
    go_wp2
    go_ret
    exact ⟨by rw [HQ.out]; rfl, Below.refl _ _⟩
  · have HQ : Hid (qt s = strOf (34 :: qs (bytesOf s) ++ [34])) := by show qt s = strOf (34 :: qs (bytesOf s) ++ [34]); unfold qt; exact if_pos (by omega)
    have hb' : ¬ (4096 : Int) < (s.size : Int) := by omega
    have HE := hid he
    have HG := hid hg
    clear he hg
    go_enter Tryz.func89, Tryz.ntmps89
    go_wp2_with fail
    refine (newWriter_any 12290 none 0 0 [] w HE.out HG.out ⟨rfl, Nat.le_refl _, by omega, by omega, by simp, fun h => by omega⟩ (by omega) (by omega)).mono ?_
    rintro e w1 ⟨rfl, hb1, hw1⟩
    have HB1 := hid hb1
    have HW1 : Hid (Wr w1 w.heap.size 12290 (some [])) := hw1
    clear hb1 hw1
    go_wp2_with fail
    refine (addByte_any w.heap.size 12290 (some []) 34 w1 HW1.out (HE.out.below HB1.out HG.out) HG.out (by omega) (by omega)).mono ?_
    rintro e w2 ⟨rfl, hb2, hw2⟩
    have HB2 := hid (HB1.out.trans hb2)
    have HW2 : Hid (Wr w2 w.heap.size 12290 (some [34])) := hw2
    clear hb2 hw2 HB1 HW1
    go_wp2
    go_loopw [15] (fun i wr => ∃ k : Nat, k ≤ s.size ∧ i = .int .i64 k ∧ Wr wr w.heap.size 12290 (some (34 :: qs ((bytesOf s).take k))) ∧ Below w.heap.size w wr) (fun i _ => s.size - (intOf i).toNat)
    case atStart => exact ⟨0, Nat.zero_le _, rfl, HW2.out, HB2.out⟩
    case round =>
      obtain ⟨k, hk, rfl, hwr, hbel⟩ := hrel
      have HW := hid hwr
      have HB := hid hbel
      have HL : Hid ((34 :: qs ((bytesOf s).take k)).length ≤ 3 * k + 1) := by
        have := qs_len ((bytesOf s).take k)
        have := List.length_take_le k (bytesOf s)
        show (34 :: qs ((bytesOf s).take k)).length ≤ 3 * k + 1
        simp only [List.length_cons]; omega
      clear hwr hbel
      by_cases hlt : k < s.size
      · have hlt' : (k : Int) < (s.size : Int) := by omega
        have HT : Hid (addSt 12290 (some (34 :: qs ((bytesOf s).take k))) (qb (s[k].toNat : Int)) = some (34 :: qs ((bytesOf s).take (k + 1)))) := by
          show addSt 12290 (some (34 :: qs ((bytesOf s).take k))) (qb (s[k].toNat : Int)) = some (34 :: qs ((bytesOf s).take (k + 1)))
          have a := HL.out
          have b := qb_len (s[k].toNat : Int)
          rw [addSt_ok _ _ _ (by omega), qs_take s k hlt]
          rfl
        have hz1 : (s[k].toNat : Int) ≤ 255 := by have := s[k].toNat_lt; omega
        go_wp2_with (go_at_call 105; refine (quoted_any w.heap.size 12290 _ (s[k].toNat : Int) wr HW.out (HE.out.below HB.out HG.out) HG.out (by omega) hz1).mono ?_; rintro e w3 ⟨rfl, hb3, hw3⟩)
        have HW3 := hid hw3
        have HB3 := hid hb3
        clear hw3 hb3
        go_roundw
        case rel => exact ⟨k + 1, by omega, by go_num, by rw [← HT.out]; exact HW3.out, HB.out.trans HB3.out⟩
        case measure => simp [intOf]; omega
      · have hlt' : ¬ (k : Int) < (s.size : Int) := by omega
        have HT : Hid ((bytesOf s).take k = bytesOf s) := List.take_of_length_le (by rw [bytesOf_len]; omega)
        have HT2 : Hid (addSt 12290 (some (34 :: qs ((bytesOf s).take k))) [34] = some (34 :: qs (bytesOf s) ++ [34])) := by
          show addSt 12290 (some (34 :: qs ((bytesOf s).take k))) [34] = some (34 :: qs (bytesOf s) ++ [34])
          have a := HL.out
          rw [addSt_ok _ _ _ (by simp only [List.length_cons, List.length_nil] at a ⊢; omega), HT.out]
        go_wp2_with (go_at_call 99; refine (addByte_any w.heap.size 12290 _ 34 wr HW.out (HE.out.below HB.out HG.out) HG.out (by omega) (by omega)).mono ?_; rintro e w3 ⟨rfl, hb3, hw3⟩)
        rw [HT2.out] at hw3
        have HW3 := hid hw3
        have HB3 := hid (HB.out.trans hb3)
        clear hw3 hb3
        refine (told_some w.heap.size 12290 _ w3 HW3.out).mono ?_
        rintro e w4 ⟨v, rfl, ho, rfl⟩
        have hbyte : ∀ z ∈ (34 :: qs (bytesOf s) ++ [34] : List Int), 0 ≤ z ∧ z ≤ 255 := by
          intro z hz
          simp only [List.cons_append, List.mem_cons, List.mem_append] at hz
          rcases hz with e | e | e
          · omega
          · exact qs_byte _ (bytesOf_byte s) z e
          · simp at e; omega
        obtain ⟨a3, c3, hv3, hrd3, _⟩ := ho.rd (byte_at hbyte) (by have := qs_len (bytesOf s); have := bytesOf_len s; simp; omega)
        have hst := run_str hrd3
        generalize hL3 : (34 :: qs (bytesOf s) ++ [34]).length = L3 at hv3 hst
        clear ho hbyte hrd3 hL3
        rw [hv3]
        clear hv3
        go_wp2
        go_ret
        exact ⟨by rw [HQ.out]; rfl, HB3.out⟩
end Go.Proofs.YtjddkofpfmjojaaGreatDoor
/-
  What the program's Unquote answers, for every string: the same as the model's.
-/
namespace Go.Proofs.YtjddkofpfmjojaaGreatDoor
open Go.RowKit

theorem idx_all : ∀ k : Fin 256, Lib.indexByte [48, 49, 50, 51, 52, 53, 54, 55, 56, 57, 65, 66, 67, 68, 69, 70] (UInt8.ofNat k.val) = hexV (k.val : Int) := by decide +kernel
theorem idx_hex (z : Int) (h0 : 0 ≤ z) (h1 : z ≤ 255) : Lib.indexByte [48, 49, 50, 51, 52, 53, 54, 55, 56, 57, 65, 66, 67, 68, 69, 70] z.toNat.toUInt8 = hexV z := by
  have := idx_all ⟨z.toNat, by omega⟩
  simp only at this
  rw [show ((z.toNat : Nat) : Int) = z from by omega] at this
  exact this

set_option maxRecDepth 100000 in
set_option maxHeartbeats 1600000 in
theorem indexByte_any (z : Int) (w : World) (h0 : 0 ≤ z) (h1 : z ≤ 255) :
    Calls Tryz.prog 101 #[.string ⟨#[48, 49, 50, 51, 52, 53, 54, 55, 56, 57, 65, 66, 67, 68, 69, 70]⟩, .int .u8 z] w fun e w' => e = .returned (.int .i64 (hexV z)) ∧ w = w' := by
  have HV := hid (idx_hex z h0 h1)
  go_enter Tryz.func101, Tryz.ntmps101
  go_wp2
  rw [run_callFunc_extern Tryz.func121 (by kernel_rfl) (by kernel_rfl) (by kernel_rfl) (e := Extern.BytealgIndexByte.indexByte) (by kernel_rfl), Lib.run_indexByteString]
  simp only [Result.andThen]
  rw [Oper.upon_value]
  go_wp2
  go_ret
  exact ⟨by rw [← HV.out]; rfl, rfl⟩

/-- The writer's state behind a byte that was read, or not. -/
def unSt (most : Nat) (st : Option (List Int)) : Option Int → Option (List Int)
  | none => none
  | some b => addSt most st [b]

theorem at_str (s : ByteArray) (j : Nat) (h : j < s.size) : (bytesOf s)[j]?.getD 0 = (s[j].toNat : Int) := by
  have h' : j < (bytesOf s).length := by rw [bytesOf_len]; exact h
  rw [List.getElem?_eq_getElem h']
  simp [bytesOf]
  rfl

set_option maxHeartbeats 1000000 in
theorem unquoted_any (g most : Nat) (st : Option (List Int)) (s : ByteArray) (w : World) (h : Wr w g most st) (he : Err w 3) (he2 : Err w 2) (hg : 3 < g) (hs : 1 ≤ s.size) (hs2 : s.size ≤ 1048576) :
    Calls Tryz.prog 85 #[.pointer (some ⟨g, 0, none⟩), .string s] w fun e w' => e = .returned (.int .i64 ((us (bytesOf s)).2 : Int)) ∧ Below g w w' ∧ Wr w' g most (unSt most st (us (bytesOf s)).1) := by
  have hlt := h.lt
  have HW := hid h
  have HE := hid he
  obtain ⟨t, x, hx⟩ := he2
  have e0 := at_str s 0 (by omega)
  have hz0 : (0 : Int) ≤ (s[0].toNat : Int) := by omega
  have hz1 : (s[0].toNat : Int) ≤ 255 := by have := s[0].toNat_lt; omega
  have hs' : (0 : Int) < (s.size : Int) := by omega
  have HL := hid (bytesOf_len s)
  have HU : Hid (us (bytesOf s) = if isPl (s[0].toNat : Int) then (some (s[0].toNat : Int), 1) else if (s[0].toNat : Int) ≠ 37 ∨ s.size < 3 then (none, s.size)
      else if hexV ((bytesOf s)[1]?.getD 0) < 0 ∨ hexV ((bytesOf s)[2]?.getD 0) < 0 ∨ isPl (hexV ((bytesOf s)[1]?.getD 0) * 16 + hexV ((bytesOf s)[2]?.getD 0)) = true then (none, s.size)
      else (some (hexV ((bytesOf s)[1]?.getD 0) * 16 + hexV ((bytesOf s)[2]?.getD 0)), 3)) := by
    show us (bytesOf s) = _
    unfold us
    rw [e0, HL.out]
  clear e0 he h
  cases hpl : isPl (s[0].toNat : Int) with
  | true =>
    have HU1 : Hid (us (bytesOf s) = (some (s[0].toNat : Int), 1)) := by show us (bytesOf s) = _; rw [HU.out, if_pos hpl]
    have HC := hid (show Calls Tryz.prog 98 #[.int .u8 (s[0].toNat : Int)] w fun e w' => e = .returned (.bool true) ∧ w = w' by rw [← hpl]; exact isPlain_any _ w)
    clear hpl HU
    go_enter Tryz.func85, Tryz.ntmps85
    go_wp2_with (first
      | (go_at_call 98; refine HC.out.mono ?_; rintro e w' ⟨rfl, rfl⟩)
      | (go_at_call 99; refine (addByte_any g most st _ w HW.out HE.out hg hz0 hz1).mono ?_; rintro e w2 ⟨rfl, hb2, hw2⟩))
    go_ret
    exact ⟨by rw [HU1.out]; rfl, hb2, by rw [HU1.out]; exact hw2⟩
  | false =>
    have HC := hid (show Calls Tryz.prog 98 #[.int .u8 (s[0].toNat : Int)] w fun e w' => e = .returned (.bool false) ∧ w = w' by rw [← hpl]; exact isPlain_any _ w)
    -- how a failure ends
    have failed : ∀ w1 : World, w1 = (if (st = none) then w else w.setCell ⟨g, 2, none⟩ (.iface t x)) → Below g w w1 ∧ Wr w1 g most none := by
      intro w1 hw1
      obtain ⟨v, ev, zs, c0, c1, c2, f0, f2, ho, hl, hm, hb, ⟨rfl, rfl⟩ | ⟨⟨y, z, rfl⟩, rfl⟩⟩ := HW.out
      · rw [if_neg (by simp)] at hw1
        subst hw1
        exact ⟨Below.setCell (p := ⟨g, 2, none⟩) (Below.refl g w) (Nat.le_refl g) _, wr_failed c0 c1 c2 f0 f2 ho hl hm hb⟩
      · rw [if_pos rfl] at hw1
        subst hw1
        exact ⟨Below.refl _ _, HW.out⟩
    have hfail : Calls Tryz.prog 100 #[.pointer (some ⟨g, 0, none⟩), .iface t x] w fun e w' => e = .returned (.tuple #[]) ∧ Below g w w' ∧ Wr w' g most none := by
      obtain ⟨v, ev, zs, c0, c1, c2, f0, f2, ho, hl, hm, hb, ⟨rfl, rfl⟩ | ⟨⟨y, z, rfl⟩, rfl⟩⟩ := HW.out
      · refine (fail_set g t x w c2 f2).mono ?_
        rintro e w' ⟨rfl, hw⟩
        exact ⟨rfl, failed w' (by rw [if_neg (by simp)]; exact hw)⟩
      · refine (fail_keep g t x w y z c2).mono ?_
        rintro e w' ⟨rfl, rfl⟩
        exact ⟨rfl, Below.refl _ _, HW.out⟩
    have HF := hid hfail
    clear hfail failed
    by_cases hbad : (s[0].toNat : Int) ≠ 37 ∨ s.size < 3
    · have HU1 : Hid (us (bytesOf s) = (none, s.size)) := by show us (bytesOf s) = _; rw [HU.out, hpl]; rw [if_neg (by simp), if_pos hbad]
      rcases (by simp only [bne_iff_ne, bne_eq_false_iff_eq]; omega : ((s[0].toNat : Int) != 37) = true ∨ (((s[0].toNat : Int) != 37) = false ∧ (s.size : Int) < 3)) with hq | ⟨hq, hq2⟩
      all_goals
        clear hpl HU hbad
        go_enter Tryz.func85, Tryz.ntmps85
        go_wp2_with (first
          | (go_at_call 98; refine HC.out.mono ?_; rintro e w' ⟨rfl, rfl⟩)
          | (go_at_call 100; refine HF.out.mono ?_; rintro e w2 ⟨rfl, hb2, hw2⟩))
        go_ret
        exact ⟨by rw [HU1.out]; rfl, hb2, by rw [HU1.out]; exact hw2⟩
    · have h3 : 3 ≤ s.size := by omega
      have g37 : ((s[0].toNat : Int) != 37) = false := by rw [bne_eq_false_iff_eq]; omega
      have HUx : Hid (us (bytesOf s) = if hexV ((bytesOf s)[1]?.getD 0) < 0 ∨ hexV ((bytesOf s)[2]?.getD 0) < 0 ∨ isPl (hexV ((bytesOf s)[1]?.getD 0) * (16 : Int) + hexV ((bytesOf s)[2]?.getD 0)) = true then (none, s.size)
          else (some (hexV ((bytesOf s)[1]?.getD 0) * (16 : Int) + hexV ((bytesOf s)[2]?.getD 0)), 3)) := by
        show us (bytesOf s) = _
        rw [HU.out, hpl, if_neg (by simp), if_neg hbad]
      clear hbad hpl HU
      have e1 := at_str s 1 (by omega)
      have e2 := at_str s 2 (by omega)
      have g3 : ¬ (s.size : Int) < 3 := by omega
      have l1 : (1 : Int) < (s.size : Int) := by omega
      have l2 : (2 : Int) < (s.size : Int) := by omega
      have y0 : (0 : Int) ≤ (s[1].toNat : Int) := by omega
      have y1 : (s[1].toNat : Int) ≤ 255 := by have := s[1].toNat_lt; omega
      have x0 : (0 : Int) ≤ (s[2].toNat : Int) := by omega
      have x1 : (s[2].toNat : Int) ≤ 255 := by have := s[2].toNat_lt; omega
      have HU2 : Hid (us (bytesOf s) = if hexV (s[1].toNat : Int) < 0 ∨ hexV (s[2].toNat : Int) < 0 ∨ isPl (hexV (s[1].toNat : Int) * (16 : Int) + hexV (s[2].toNat : Int)) = true then (none, s.size) else (some (hexV (s[1].toNat : Int) * (16 : Int) + hexV (s[2].toNat : Int)), 3)) := by
        show us (bytesOf s) = _
        rw [HUx.out, e1, e2]
      have C1 := hid (fun w => indexByte_any (s[1].toNat : Int) w y0 y1)
      have C2 := hid (fun w => indexByte_any (s[2].toNat : Int) w x0 x1)
      have b1 : -1 ≤ hexV (s[1].toNat : Int) ∧ hexV (s[1].toNat : Int) ≤ 15 := by unfold hexV; split <;> (try split) <;> omega
      have b2 : -1 ≤ hexV (s[2].toNat : Int) ∧ hexV (s[2].toNat : Int) ≤ 15 := by unfold hexV; split <;> (try split) <;> omega
      generalize hexV (s[1].toNat : Int) = A at HU2 C1 b1
      generalize hexV (s[2].toNat : Int) = B at HU2 C2 b2
      obtain ⟨b1a, b1b⟩ := b1
      obtain ⟨b2a, b2b⟩ := b2
      clear e1 e2 HUx
      go_enter Tryz.func85, Tryz.ntmps85
      go_wp2_with (go_at_call 98; refine HC.out.mono ?_; rintro e w' ⟨rfl, rfl⟩)
      refine (C1.out _).mono ?_
      rintro e w' ⟨rfl, rfl⟩
      go_wp2_with fail
      refine (C2.out _).mono ?_
      rintro e w' ⟨rfl, rfl⟩
      by_cases hA : A < 0
      · have HU1 : Hid (us (bytesOf s) = (none, s.size)) := by show us (bytesOf s) = _; rw [HU2.out, if_pos (.inl hA)]
        go_wp2_with (go_at_call 100; refine HF.out.mono ?_; rintro e w2 ⟨rfl, hb2, hw2⟩)
        go_ret
        exact ⟨by rw [HU1.out]; rfl, hb2, by rw [HU1.out]; exact hw2⟩
      · by_cases hB : B < 0
        · have HU1 : Hid (us (bytesOf s) = (none, s.size)) := by show us (bytesOf s) = _; rw [HU2.out, if_pos (.inr (.inl hB))]
          go_wp2_with (go_at_call 100; refine HF.out.mono ?_; rintro e w2 ⟨rfl, hb2, hw2⟩)
          go_ret
          exact ⟨by rw [HU1.out]; rfl, hb2, by rw [HU1.out]; exact hw2⟩
        · have HC2 := hid (isPlain_any (A * 16 + B) w)
          cases hpl2 : isPl (A * 16 + B) with
          | true =>
            have HU1 : Hid (us (bytesOf s) = (none, s.size)) := by show us (bytesOf s) = _; rw [HU2.out, if_pos (.inr (.inr hpl2))]
            rw [hpl2] at HC2
            clear hpl2
            go_wp2_with (first
              | (go_at_call 98; refine HC2.out.mono ?_; rintro e w' ⟨rfl, rfl⟩)
              | (go_at_call 100; refine HF.out.mono ?_; rintro e w2 ⟨rfl, hb2, hw2⟩))
            go_ret
            exact ⟨by rw [HU1.out]; rfl, hb2, by rw [HU1.out]; exact hw2⟩
          | false =>
            have HU1 : Hid (us (bytesOf s) = (some (A * 16 + B), 3)) := by
              show us (bytesOf s) = _
              rw [HU2.out, hpl2, if_neg (by simp; omega)]
            rw [hpl2] at HC2
            clear hpl2
            go_wp2_with (first
              | (go_at_call 98; refine HC2.out.mono ?_; rintro e w' ⟨rfl, rfl⟩)
              | (go_at_call 99; refine (addByte_any g most st (A * 16 + B) w HW.out HE.out hg (by omega) (by omega)).mono ?_; rintro e w2 ⟨rfl, hb2, hw2⟩))
            go_ret
            exact ⟨by rw [HU1.out]; rfl, hb2, by rw [HU1.out]; exact hw2⟩

theorem bytes_extract (s : ByteArray) (a b : Nat) : bytesOf (s.extract a b) = ((bytesOf s).take b).drop a := by
  unfold bytesOf
  rw [Lib.extract_data, List.drop_take]
  simp [List.map_take, List.map_drop]
theorem us_pos (L : List Int) (h : 1 ≤ L.length) : L ≠ [] := by
  intro e
  rw [e] at h
  simp at h
/-- What is left to be read at place k. -/
def rest (s : ByteArray) (k : Nat) : List Int := ((bytesOf s).take (s.size - 1)).drop k
theorem rest_len (s : ByteArray) (k : Nat) : (rest s k).length = s.size - 1 - k := by
  unfold rest
  rw [List.length_drop, List.length_take, bytesOf_len]
  omega
theorem rest_drop (s : ByteArray) (k n : Nat) : (rest s k).drop n = rest s (k + n) := by
  unfold rest
  rw [List.drop_drop]
theorem comb_step (st : Option (List Int)) (L : List Int) (h : L ≠ []) : comb (unSt 4096 st (us L).1) (L.drop (us L).2) = comb st L := by
  cases st with
  | none =>
    rw [comb_none]
    cases (us L).1 with
    | none => rfl
    | some b => rfl
  | some zs =>
    cases hu : (us L).1 with
    | none => rw [comb_bad zs L h hu]; rfl
    | some b => rw [comb_good zs L h b hu]; rfl

set_option maxHeartbeats 1600000 in
theorem implUnquote_any (s : ByteArray) (w : World) (hs : s.size ≤ 1048576) (he : Err w 3) (he2 : Err w 2) (hg : 3 < w.heap.size) (hg2 : 2 < w.heap.size) :
    Calls Tryz.prog 68 #[.string s] w fun e w' => e = .returned (.tuple #[.string (strOf ((uq s).getD [])), .bool (uq s).isSome]) ∧ Below w.heap.size w w' := by
  have HE := hid he
  have HE2 := hid he2
  have HG := hid hg
  have HG2 := hid hg2
  clear he he2 hg hg2
  by_cases h2 : s.size < 2
  · have HU := hid (uq_short s h2)
    have h2' : (s.size : Int) - 1 < 1 := by omega
    go_enter Tryz.func68, Tryz.ntmps68
    go_wp2
    go_ret2
    exact ⟨by rw [HU.out]; rfl, Below.refl _ _⟩
  · have h2' : ¬ (s.size : Int) - 1 < 1 := by omega
    have l0 : (0 : Int) < (s.size : Int) := by omega
    have l1 : (s.size : Int) - 1 < (s.size : Int) := by omega
    have l2 : 0 ≤ (s.size : Int) - 1 := by omega
    have hk0 : 0 < s.size := by omega
    have hk1 : s.size - 1 < s.size := by omega
    have e0 := at_str s 0 hk0
    have e1 := at_str s (s.size - 1) hk1
    by_cases hm : ¬ ((s[0].toNat : Int) = 34 ∧ (s[s.size - 1].toNat : Int) = 34)
    · have HU : Hid (uq s = none) := by
        show uq s = none
        unfold uq
        rw [e0, e1]
        exact if_neg (fun x => hm x.2)
      rcases (by simp only [bne_iff_ne, bne_eq_false_iff_eq]; omega : ((s[0].toNat : Int) != 34) = true ∨ (((s[0].toNat : Int) != 34) = false ∧ ((s[s.size - 1].toNat : Int) != 34) = true)) with hq | ⟨hq, hq2⟩
      · clear hm e0 e1
        go_enter Tryz.func68, Tryz.ntmps68
        go_wp2
        go_ret2
        exact ⟨by rw [HU.out]; rfl, Below.refl _ _⟩
      · clear hm e0 e1
        have tn : ((s.size : Int) - 1).toNat = s.size - 1 := by omega
        go_enter Tryz.func68, Tryz.ntmps68
        go_wp2
        go_ret2
        exact ⟨by rw [HU.out]; rfl, Below.refl _ _⟩
    · have HU : Hid (uq s = comb (some []) (rest s 1)) := by
        show uq s = comb (some []) (rest s 1)
        unfold uq
        rw [e0, e1, if_pos ⟨by omega, by omega⟩]
        rfl
      have q0 : ((s[0].toNat : Int) != 34) = false := by rw [bne_eq_false_iff_eq]; omega
      have q1 : ((s[s.size - 1].toNat : Int) != 34) = false := by rw [bne_eq_false_iff_eq]; omega
      clear hm e0 e1
      have tn : ((s.size : Int) - 1).toNat = s.size - 1 := by omega
      obtain ⟨T, hT⟩ : ∃ T : Nat, s.size = T + 1 := ⟨s.size - 1, by omega⟩
      have HT := hid hT
      clear hT
      go_enter Tryz.func68, Tryz.ntmps68
      go_wp2_with fail
      refine (newWriter_any 4096 none 0 0 [] w HE.out HG.out ⟨rfl, Nat.le_refl _, by omega, by omega, by simp, fun h => by omega⟩ (by omega) (by omega)).mono ?_
      rintro e w1 ⟨rfl, hb1, hw1⟩
      have HB1 := hid hb1
      have HW1 : Hid (Wr w1 w.heap.size 4096 (some [])) := hw1
      clear hb1 hw1
      go_wp2
      go_loopw [6] (fun i wr => ∃ (k : Nat) (st : Option (List Int)), 1 ≤ k ∧ k ≤ s.size - 1 ∧ i = .int .i64 k ∧ Wr wr w.heap.size 4096 st ∧ comb st (rest s k) = uq s ∧ Below w.heap.size w wr) (fun i _ => s.size - (intOf i).toNat)
      case atStart => exact ⟨1, some [], by omega, by omega, rfl, HW1.out, HU.out.symm, HB1.out⟩
      case round =>
        obtain ⟨k, st, hk1, hk2, rfl, hwr, hcomb, hbel⟩ := hrel
        have HW := hid hwr
        have HB := hid hbel
        have HC := hid hcomb
        obtain ⟨v, ev, zs, c0, c1, c2, f0, f2, ho, hl, hm4, hb, hst⟩ := hwr
        have HO := hid ho
        have HZ := hid hb
        clear hcomb hbel c0 c1 f0 f2 ho hb
        rcases hst with ⟨rfl, rfl⟩ | ⟨⟨y, z, rfl⟩, rfl⟩
        · by_cases hlt : k < s.size - 1
          · have hlt' : (k : Int) < (s.size : Int) - 1 := by omega
            have hne : rest s k ≠ [] := us_pos _ (by rw [rest_len]; omega)
            have HX : Hid (bytesOf (s.extract k (s.size - 1)) = rest s k) := bytes_extract s k (s.size - 1)
            have HS := hid (comb_step (some zs) (rest s k) hne)
            have ul := us_len (rest s k) hne
            rw [rest_len] at ul
            have HUL := hid ul
            have hxs : (s.extract k (s.size - 1)).size = s.size - 1 - k := by rw [← bytesOf_len, HX.out, rest_len]
            have HXS := hid hxs
            clear hne ul hxs
            have HQ := hid (unquoted_any w.heap.size 4096 (some zs) (s.extract k (s.size - 1)) wr HW.out (HE.out.below HB.out HG.out) (HE2.out.below HB.out HG2.out) HG.out (by rw [HXS.out]; omega) (by rw [HXS.out]; omega))
            rw [HX.out] at HQ
            rw [rest_drop] at HS
            generalize (us (rest s k)).2 = n at HQ HS HUL
            generalize (us (rest s k)).1 = ob at HQ HS
            have n1 : 1 ≤ n := HUL.out.1
            have n2 : n ≤ s.size - 1 - k := HUL.out.2
            go_wp2_with fail
            refine HQ.out.mono ?_
            rintro e w2 ⟨rfl, hb2, hw2⟩
            have HB2 := hid (HB.out.trans hb2)
            have HW2 := hid hw2
            clear hb2 hw2 c2
            go_wp2
            go_roundw
            case rel => exact ⟨k + n, _, by omega, by omega, by go_num, HW2.out, by rw [HS.out]; exact HC.out, HB2.out⟩
            case measure => simp [intOf]; omega
          · have hlt' : ¬ (k : Int) < (s.size : Int) - 1 := by omega
            have HN : Hid (uq s = some zs) := by
              show uq s = some zs
              have : rest s k = [] := List.eq_nil_of_length_eq_zero (by rw [rest_len]; omega)
              rw [← HC.out, this, comb_nil zs hl]
            go_wp2_with fail
            refine (told_some w.heap.size 4096 zs wr HW.out).mono ?_
            rintro e w4 ⟨v4, rfl, ho4, rfl⟩
            obtain ⟨a3, c3, hv3, hrd3, _⟩ := ho4.rd (byte_at HZ.out) (by omega)
            have hst := run_str hrd3
            generalize hL3 : zs.length = L3 at hv3 hst
            clear ho4 hrd3 hL3
            rw [hv3]
            clear hv3
            go_wp2
            go_ret2
            exact ⟨by rw [HN.out]; rfl, HB.out⟩
        · have HN : Hid (uq s = none) := by
            show uq s = none
            rw [← HC.out]; rfl
          have hst := fun w => run_str (w := w) (a := none) (n := 0) (c := 0) (zs := []) ⟨rfl, Nat.le_refl _, by omega, by omega, by simp, fun h => by omega⟩
          by_cases hlt : k < s.size - 1
          · have hlt' : (k : Int) < (s.size : Int) - 1 := by omega
            go_wp2_with (go_at_call 86; refine (told_none w.heap.size 4096 wr HW.out).mono ?_; rintro e w4 ⟨rfl, rfl⟩)
            go_ret2
            exact ⟨by rw [HN.out]; rfl, HB.out⟩
          · have hlt' : ¬ (k : Int) < (s.size : Int) - 1 := by omega
            go_wp2_with (go_at_call 86; refine (told_none w.heap.size 4096 wr HW.out).mono ?_; rintro e w4 ⟨rfl, rfl⟩)
            go_ret2
            exact ⟨by rw [HN.out]; rfl, HB.out⟩
end Go.Proofs.YtjddkofpfmjojaaGreatDoor
/-
  The closure's call; one and rest of the program.
-/
namespace Go.Proofs.YtjddkofpfmjojaaGreatDoor
open Go.RowKit
set_option linter.unusedVariables false
theorem take_noW {P : Program} {md : Region.Mode} {ops : Array Oper} {Q : Exit → Act → World → Prop} {S : World → Prop} {i : Nat} {oi : Oper} {fuel : Nat} {listed : Array Bool} {a : Act} {w : World} (hi : ops[i]? = some oi)
    (hs : Region.noSelect ops = true) (hf : Region.free md ops listed i = true) (hr : (Region.ready md ops listed).contains i = true)
    (hQ : ∀ c a w, Q (.panic c) (a.put oi.dst undef) w → Q (.panic c) a w) (hw : Region.wanted oi (yielded ops a.tmps) = false) (hS : S w)
    (h : wpAnyH P md ops Q S fuel (listed.setIfInBounds i true) (a.put oi.dst undef) w) : wpAnyH P md ops Q S (fuel + 1) listed a w :=
  wpAnyH_take hi hs hf hr hQ (Or.inr ⟨hw, rfl⟩) hS h
set_option maxHeartbeats 8000000 in
set_option maxRecDepth 200000 in
theorem next_any (g : Nat) (s : ByteArray) (d : UInt8) (LL : List ByteArray) (w : World) (h : PS w g s d LL) (hs : s.size ≤ 1048576) :
    Calls Tryz.prog 42 #[.pointer (some ⟨g + 2, 0, none⟩), .pointer (some ⟨g, 0, none⟩), .pointer (some ⟨g + 1, 0, none⟩)] w fun e w' => e = .returned (.tuple #[.string (rdW LL 0), .bool (decide (LL ≠ []))]) ∧ PS w' g s d (LL.drop 1) ∧ Only (fun y => y = g + 2) w w' := by
  obtain ⟨k, hk1, ks, kd, ka, hL⟩ := h
  have hL := hL.symm
  have KA0 := hid ka
  have KS0 := hid ks
  have KD0 := hid kd
  have x0 := ka.cell (j := 0) rfl
  have x1 := ks.cell (j := 0) rfl
  have x2 := kd.cell (j := 0) rfl
  clear ka ks kd
  by_cases hk : k < s.size
  · have hk' : (k : Int) < (s.size : Int) := by omega
    go_enter Tryz.func42, Tryz.ntmps42
    go_wp2_with fail
    clear x0 x1 x2
    go_loopw [12] (fun _ wr => ∃ j : Nat, Hid (k ≤ j) ∧ Hid (j ≤ s.size) ∧ Hid (∀ i (hi : i < s.size), k ≤ i → i < j → s[i] ≠ d) ∧ Hid (Bk wr g 9 [.string s]) ∧ Hid (Bk wr (g + 1) 21 [.int .i32 d.toNat]) ∧ Hid (Bk wr (g + 2) 3 [.int .i64 j]) ∧ Hid (Only (fun y => y = g + 2) w wr)) (fun _ wr => match wr.cell? ⟨g + 2, 0, none⟩ with | some (.int _ z) => s.size - z.toNat | _ => 0)
    case atStart => exact ⟨k, Nat.le_refl _, Nat.le_of_lt hk, fun i hi h1 h2 => absurd h2 (by omega), KS0.out, KD0.out, KA0.out, Only.refl _ _⟩
    case round =>
      clear KA0 KS0 KD0
      obtain ⟨j, HJ1, HJ2, HN, KS, KD, KA, HB⟩ := hrel
      have x0 := KA.out.cell (j := 0) rfl
      have x1 := KS.out.cell (j := 0) rfl
      have x2 := KD.out.cell (j := 0) rfl
      by_cases hj : j < s.size
      · have hj' : (j : Int) < (s.size : Int) := by omega
        by_cases hd : s[j] = d
        · have hdd : (s[j].toNat : Int) = (d.toNat : Int) := by rw [hd]
          have hs8 : s[j].toNat < 256 := s[j].toNat_lt
          have hd8 : d.toNat < 256 := d.toNat_lt
          have hw1 := Go.IntWalk.i32_in (s[j].toNat : Int) (by omega)
          have hw2 := Go.IntWalk.i32_in (d.toNat : Int) (by omega)
          have HX0 := hid x0
          go_wp2_with fail
          clear x0 x1 x2
          refine wp_region_noPanic ?_
          refine wp_region_held_drew (S := fun v => v.cell? ⟨g + 2, 0, none⟩ = some (.int .i64 j) ∧ v.cell? ⟨g, 0, none⟩ = some (.string s) ∧ v.cell? ⟨g + 1, 0, none⟩ = some (.int .i32 d.toNat)) (by kernel_rfl) (⟨(KA.out.below (below_drew _)).cell (j := 0) rfl, (KS.out.below (below_drew _)).cell (j := 0) rfl, (KD.out.below (below_drew _)).cell (j := 0) rfl⟩) (fun hHeld => ?_)
          simp only [List.size_toArray, List.length_cons, List.length_nil, Array.replicate_succ, Array.replicate_zero, Nat.reduceAdd, List.push_toArray, List.nil_append, List.cons_append]
          refine wpAnyH_take (i := 0) (v := (.int .i64 j)) rfl (by kernel_rfl) (by kernel_rfl) (by kernel_rfl) (fun _ _ _ h => h) (Or.inl ⟨by rfl, ?_⟩) (by assumption) ?_
          · intro w hSw
            (try dsimp only at hSw)
            go_simp
          try simp only [List.getElem_toArray]
          try simp only [List.getElem_cons_succ]
          try simp only [List.getElem_cons_zero]
          try simp only [Act.put]
          try simp only [List.setIfInBounds_toArray]
          try simp only [List.set_cons_succ]
          try simp only [List.set_cons_zero]
          refine wpAnyH_take (i := 1) (v := (.string s)) rfl (by kernel_rfl) (by kernel_rfl) (by kernel_rfl) (fun _ _ _ h => h) (Or.inl ⟨by rfl, ?_⟩) (by assumption) ?_
          · intro w hSw
            (try dsimp only at hSw)
            go_simp
          try simp only [List.getElem_toArray]
          try simp only [List.getElem_cons_succ]
          try simp only [List.getElem_cons_zero]
          try simp only [Act.put]
          try simp only [List.setIfInBounds_toArray]
          try simp only [List.set_cons_succ]
          try simp only [List.set_cons_zero]
          refine wpAnyH_take (i := 2) (v := (.int .i64 s.size)) rfl (by kernel_rfl) (by kernel_rfl) (by kernel_rfl) (fun _ _ _ h => h) (Or.inl ⟨by rfl, ?_⟩) (by assumption) ?_
          · intro w hSw
            (try dsimp only at hSw)
            go_simp
          try simp only [List.getElem_toArray]
          try simp only [List.getElem_cons_succ]
          try simp only [List.getElem_cons_zero]
          try simp only [Act.put]
          try simp only [List.setIfInBounds_toArray]
          try simp only [List.set_cons_succ]
          try simp only [List.set_cons_zero]
          refine wpAnyH_take (i := 3) (v := (.bool true)) rfl (by kernel_rfl) (by kernel_rfl) (by kernel_rfl) (fun _ _ _ h => h) (Or.inl ⟨by rfl, ?_⟩) (by assumption) ?_
          · intro w hSw
            (try dsimp only at hSw)
            go_simp
            all_goals (try omega)
          try simp only [List.getElem_toArray]
          try simp only [List.getElem_cons_succ]
          try simp only [List.getElem_cons_zero]
          try simp only [Act.put]
          try simp only [List.setIfInBounds_toArray]
          try simp only [List.set_cons_succ]
          try simp only [List.set_cons_zero]
          refine wpAnyH_take (i := 4) (v := (.bool true)) rfl (by kernel_rfl) (by kernel_rfl) (by kernel_rfl) (fun _ _ _ h => h) (Or.inl ⟨by rfl, ?_⟩) (by assumption) ?_
          · intro w hSw
            (try dsimp only at hSw)
            go_simp
          try simp only [List.getElem_toArray]
          try simp only [List.getElem_cons_succ]
          try simp only [List.getElem_cons_zero]
          try simp only [Act.put]
          try simp only [List.setIfInBounds_toArray]
          try simp only [List.set_cons_succ]
          try simp only [List.set_cons_zero]
          refine wpAnyH_take (i := 5) (v := (.string s)) rfl (by kernel_rfl) (by kernel_rfl) (by kernel_rfl) (fun _ _ _ h => h) (Or.inl ⟨by rfl, ?_⟩) (by assumption) ?_
          · intro w hSw
            (try dsimp only at hSw)
            go_simp
          try simp only [List.getElem_toArray]
          try simp only [List.getElem_cons_succ]
          try simp only [List.getElem_cons_zero]
          try simp only [Act.put]
          try simp only [List.setIfInBounds_toArray]
          try simp only [List.set_cons_succ]
          try simp only [List.set_cons_zero]
          refine wpAnyH_take (i := 6) (v := (.int .i64 j)) rfl (by kernel_rfl) (by kernel_rfl) (by kernel_rfl) (fun _ _ _ h => h) (Or.inl ⟨by rfl, ?_⟩) (by assumption) ?_
          · intro w hSw
            (try dsimp only at hSw)
            go_simp
          try simp only [List.getElem_toArray]
          try simp only [List.getElem_cons_succ]
          try simp only [List.getElem_cons_zero]
          try simp only [Act.put]
          try simp only [List.setIfInBounds_toArray]
          try simp only [List.set_cons_succ]
          try simp only [List.set_cons_zero]
          refine wpAnyH_take (i := 7) (v := (.int .u8 s[j].toNat)) rfl (by kernel_rfl) (by kernel_rfl) (by kernel_rfl) (fun _ _ _ h => h) (Or.inl ⟨by rfl, ?_⟩) (by assumption) ?_
          · intro w hSw
            (try dsimp only at hSw)
            go_simp
            all_goals (try omega)
          try simp only [List.getElem_toArray]
          try simp only [List.getElem_cons_succ]
          try simp only [List.getElem_cons_zero]
          try simp only [Act.put]
          try simp only [List.setIfInBounds_toArray]
          try simp only [List.set_cons_succ]
          try simp only [List.set_cons_zero]
          refine wpAnyH_take (i := 8) (v := (.int .i32 s[j].toNat)) rfl (by kernel_rfl) (by kernel_rfl) (by kernel_rfl) (fun _ _ _ h => h) (Or.inl ⟨by rfl, ?_⟩) (by assumption) ?_
          · intro w hSw
            (try dsimp only at hSw)
            go_simp
            all_goals (try omega)
          try simp only [List.getElem_toArray]
          try simp only [List.getElem_cons_succ]
          try simp only [List.getElem_cons_zero]
          try simp only [Act.put]
          try simp only [List.setIfInBounds_toArray]
          try simp only [List.set_cons_succ]
          try simp only [List.set_cons_zero]
          refine wpAnyH_take (i := 9) (v := (.int .i32 d.toNat)) rfl (by kernel_rfl) (by kernel_rfl) (by kernel_rfl) (fun _ _ _ h => h) (Or.inl ⟨by rfl, ?_⟩) (by assumption) ?_
          · intro w hSw
            (try dsimp only at hSw)
            go_simp
          try simp only [List.getElem_toArray]
          try simp only [List.getElem_cons_succ]
          try simp only [List.getElem_cons_zero]
          try simp only [Act.put]
          try simp only [List.setIfInBounds_toArray]
          try simp only [List.set_cons_succ]
          try simp only [List.set_cons_zero]
          refine wpAnyH_take (i := 10) (v := (.bool false)) rfl (by kernel_rfl) (by kernel_rfl) (by kernel_rfl) (fun _ _ _ h => h) (Or.inl ⟨by rfl, ?_⟩) (by assumption) ?_
          · intro w hSw
            (try dsimp only at hSw)
            go_simp
            all_goals (try omega)
          try simp only [List.getElem_toArray]
          try simp only [List.getElem_cons_succ]
          try simp only [List.getElem_cons_zero]
          try simp only [Act.put]
          try simp only [List.setIfInBounds_toArray]
          try simp only [List.set_cons_succ]
          try simp only [List.set_cons_zero]
          refine wpAnyH_take (i := 11) (v := (.bool false)) rfl (by kernel_rfl) (by kernel_rfl) (by kernel_rfl) (fun _ _ _ h => h) (Or.inl ⟨by rfl, ?_⟩) (by assumption) ?_
          · intro w hSw
            (try dsimp only at hSw)
            go_simp
          try simp only [List.getElem_toArray]
          try simp only [List.getElem_cons_succ]
          try simp only [List.getElem_cons_zero]
          try simp only [Act.put]
          try simp only [List.setIfInBounds_toArray]
          try simp only [List.set_cons_succ]
          try simp only [List.set_cons_zero]
          refine wpAnyH_done (by kernel_rfl) ?_ _
          refine NoPanic.normal ?_
          have KA2 := hid (KA.out.below (below_drew wr))
          have KS2 := hid (KS.out.below (below_drew wr))
          have KD2 := hid (KD.out.below (below_drew wr))
          have HB2 := hid (HB.out.trans (only_of_below (below_drew wr) (fun y => y = g + 2)))
          clear KA KS KD HB
          generalize wr.drew = v at *
          have y0 := KA2.out.cell (j := 0) rfl
          have y1 := KS2.out.cell (j := 0) rfl
          have y2 := KD2.out.cell (j := 0) rfl
          have f0 := KA2.out.free 0
          have HE := hid (pcK_step d s k j hk HJ1.out HJ2.out HN.out (.inr ⟨hj, hd⟩))
          have KA3 := hid (KA2.out.set 0 (.int .i64 ((j : Int) + 1)))
          have KS3 : Hid (Bk (v.setCell ⟨g + 2, 0, none⟩ (.int .i64 ((j : Int) + 1))) g 9 [.string s]) := KS2.out.setOther (by omega) _ _
          have KD3 : Hid (Bk (v.setCell ⟨g + 2, 0, none⟩ (.int .i64 ((j : Int) + 1))) (g + 1) 21 [.int .i32 d.toNat]) := KD2.out.setOther (by omega) _ _
          have HB3 : Hid (Only (fun y => y = g + 2) w (v.setCell ⟨g + 2, 0, none⟩ (.int .i64 ((j : Int) + 1)))) := HB2.out.trans (only_set (R := fun y => y = g + 2) (p := ⟨g + 2, 0, none⟩) rfl _)
          have j1 := HJ1.out
          have j2 := HJ2.out
          have jk : (k : Int) ≤ (j : Int) := by omega
          have js : (j : Int) ≤ (s.size : Int) := by omega
          go_wp2
          go_ret2
          refine ⟨by rw [hL, HE.out]; simp [rdW], ⟨j + 1, by omega, KS3.out, KD3.out, ?_, by rw [hL, HE.out]; rfl⟩, HB3.out⟩
          have := KA3.out
          rwa [show ((j : Int) + 1) = ((j + 1 : Nat) : Int) by omega] at this
        · have hdd : ¬ (s[j].toNat : Int) = (d.toNat : Int) := fun q => hd (by apply UInt8.toNat_inj.1; omega)
          have hs8 : s[j].toNat < 256 := s[j].toNat_lt
          have hd8 : d.toNat < 256 := d.toNat_lt
          have hw1 := Go.IntWalk.i32_in (s[j].toNat : Int) (by omega)
          have hw2 := Go.IntWalk.i32_in (d.toNat : Int) (by omega)
          have HX0 := hid x0
          go_wp2_with fail
          clear x0 x1 x2
          refine wp_region_noPanic ?_
          refine wp_region_held_drew (S := fun v => v.cell? ⟨g + 2, 0, none⟩ = some (.int .i64 j) ∧ v.cell? ⟨g, 0, none⟩ = some (.string s) ∧ v.cell? ⟨g + 1, 0, none⟩ = some (.int .i32 d.toNat)) (by kernel_rfl) (⟨(KA.out.below (below_drew _)).cell (j := 0) rfl, (KS.out.below (below_drew _)).cell (j := 0) rfl, (KD.out.below (below_drew _)).cell (j := 0) rfl⟩) (fun hHeld => ?_)
          simp only [List.size_toArray, List.length_cons, List.length_nil, Array.replicate_succ, Array.replicate_zero, Nat.reduceAdd, List.push_toArray, List.nil_append, List.cons_append]
          refine wpAnyH_take (i := 0) (v := (.int .i64 j)) rfl (by kernel_rfl) (by kernel_rfl) (by kernel_rfl) (fun _ _ _ h => h) (Or.inl ⟨by rfl, ?_⟩) (by assumption) ?_
          · intro w hSw
            (try dsimp only at hSw)
            go_simp
          try simp only [List.getElem_toArray]
          try simp only [List.getElem_cons_succ]
          try simp only [List.getElem_cons_zero]
          try simp only [Act.put]
          try simp only [List.setIfInBounds_toArray]
          try simp only [List.set_cons_succ]
          try simp only [List.set_cons_zero]
          refine wpAnyH_take (i := 1) (v := (.string s)) rfl (by kernel_rfl) (by kernel_rfl) (by kernel_rfl) (fun _ _ _ h => h) (Or.inl ⟨by rfl, ?_⟩) (by assumption) ?_
          · intro w hSw
            (try dsimp only at hSw)
            go_simp
          try simp only [List.getElem_toArray]
          try simp only [List.getElem_cons_succ]
          try simp only [List.getElem_cons_zero]
          try simp only [Act.put]
          try simp only [List.setIfInBounds_toArray]
          try simp only [List.set_cons_succ]
          try simp only [List.set_cons_zero]
          refine wpAnyH_take (i := 2) (v := (.int .i64 s.size)) rfl (by kernel_rfl) (by kernel_rfl) (by kernel_rfl) (fun _ _ _ h => h) (Or.inl ⟨by rfl, ?_⟩) (by assumption) ?_
          · intro w hSw
            (try dsimp only at hSw)
            go_simp
          try simp only [List.getElem_toArray]
          try simp only [List.getElem_cons_succ]
          try simp only [List.getElem_cons_zero]
          try simp only [Act.put]
          try simp only [List.setIfInBounds_toArray]
          try simp only [List.set_cons_succ]
          try simp only [List.set_cons_zero]
          refine wpAnyH_take (i := 3) (v := (.bool true)) rfl (by kernel_rfl) (by kernel_rfl) (by kernel_rfl) (fun _ _ _ h => h) (Or.inl ⟨by rfl, ?_⟩) (by assumption) ?_
          · intro w hSw
            (try dsimp only at hSw)
            go_simp
            all_goals (try omega)
          try simp only [List.getElem_toArray]
          try simp only [List.getElem_cons_succ]
          try simp only [List.getElem_cons_zero]
          try simp only [Act.put]
          try simp only [List.setIfInBounds_toArray]
          try simp only [List.set_cons_succ]
          try simp only [List.set_cons_zero]
          refine wpAnyH_take (i := 4) (v := (.bool true)) rfl (by kernel_rfl) (by kernel_rfl) (by kernel_rfl) (fun _ _ _ h => h) (Or.inl ⟨by rfl, ?_⟩) (by assumption) ?_
          · intro w hSw
            (try dsimp only at hSw)
            go_simp
          try simp only [List.getElem_toArray]
          try simp only [List.getElem_cons_succ]
          try simp only [List.getElem_cons_zero]
          try simp only [Act.put]
          try simp only [List.setIfInBounds_toArray]
          try simp only [List.set_cons_succ]
          try simp only [List.set_cons_zero]
          refine wpAnyH_take (i := 5) (v := (.string s)) rfl (by kernel_rfl) (by kernel_rfl) (by kernel_rfl) (fun _ _ _ h => h) (Or.inl ⟨by rfl, ?_⟩) (by assumption) ?_
          · intro w hSw
            (try dsimp only at hSw)
            go_simp
          try simp only [List.getElem_toArray]
          try simp only [List.getElem_cons_succ]
          try simp only [List.getElem_cons_zero]
          try simp only [Act.put]
          try simp only [List.setIfInBounds_toArray]
          try simp only [List.set_cons_succ]
          try simp only [List.set_cons_zero]
          refine wpAnyH_take (i := 6) (v := (.int .i64 j)) rfl (by kernel_rfl) (by kernel_rfl) (by kernel_rfl) (fun _ _ _ h => h) (Or.inl ⟨by rfl, ?_⟩) (by assumption) ?_
          · intro w hSw
            (try dsimp only at hSw)
            go_simp
          try simp only [List.getElem_toArray]
          try simp only [List.getElem_cons_succ]
          try simp only [List.getElem_cons_zero]
          try simp only [Act.put]
          try simp only [List.setIfInBounds_toArray]
          try simp only [List.set_cons_succ]
          try simp only [List.set_cons_zero]
          refine wpAnyH_take (i := 7) (v := (.int .u8 s[j].toNat)) rfl (by kernel_rfl) (by kernel_rfl) (by kernel_rfl) (fun _ _ _ h => h) (Or.inl ⟨by rfl, ?_⟩) (by assumption) ?_
          · intro w hSw
            (try dsimp only at hSw)
            go_simp
            all_goals (try omega)
          try simp only [List.getElem_toArray]
          try simp only [List.getElem_cons_succ]
          try simp only [List.getElem_cons_zero]
          try simp only [Act.put]
          try simp only [List.setIfInBounds_toArray]
          try simp only [List.set_cons_succ]
          try simp only [List.set_cons_zero]
          refine wpAnyH_take (i := 8) (v := (.int .i32 s[j].toNat)) rfl (by kernel_rfl) (by kernel_rfl) (by kernel_rfl) (fun _ _ _ h => h) (Or.inl ⟨by rfl, ?_⟩) (by assumption) ?_
          · intro w hSw
            (try dsimp only at hSw)
            go_simp
            all_goals (try omega)
          try simp only [List.getElem_toArray]
          try simp only [List.getElem_cons_succ]
          try simp only [List.getElem_cons_zero]
          try simp only [Act.put]
          try simp only [List.setIfInBounds_toArray]
          try simp only [List.set_cons_succ]
          try simp only [List.set_cons_zero]
          refine wpAnyH_take (i := 9) (v := (.int .i32 d.toNat)) rfl (by kernel_rfl) (by kernel_rfl) (by kernel_rfl) (fun _ _ _ h => h) (Or.inl ⟨by rfl, ?_⟩) (by assumption) ?_
          · intro w hSw
            (try dsimp only at hSw)
            go_simp
          try simp only [List.getElem_toArray]
          try simp only [List.getElem_cons_succ]
          try simp only [List.getElem_cons_zero]
          try simp only [Act.put]
          try simp only [List.setIfInBounds_toArray]
          try simp only [List.set_cons_succ]
          try simp only [List.set_cons_zero]
          refine wpAnyH_take (i := 10) (v := (.bool true)) rfl (by kernel_rfl) (by kernel_rfl) (by kernel_rfl) (fun _ _ _ h => h) (Or.inl ⟨by rfl, ?_⟩) (by assumption) ?_
          · intro w hSw
            (try dsimp only at hSw)
            go_simp
            all_goals (try omega)
          try simp only [List.getElem_toArray]
          try simp only [List.getElem_cons_succ]
          try simp only [List.getElem_cons_zero]
          try simp only [Act.put]
          try simp only [List.setIfInBounds_toArray]
          try simp only [List.set_cons_succ]
          try simp only [List.set_cons_zero]
          refine wpAnyH_take (i := 11) (v := (.bool true)) rfl (by kernel_rfl) (by kernel_rfl) (by kernel_rfl) (fun _ _ _ h => h) (Or.inl ⟨by rfl, ?_⟩) (by assumption) ?_
          · intro w hSw
            (try dsimp only at hSw)
            go_simp
          try simp only [List.getElem_toArray]
          try simp only [List.getElem_cons_succ]
          try simp only [List.getElem_cons_zero]
          try simp only [Act.put]
          try simp only [List.setIfInBounds_toArray]
          try simp only [List.set_cons_succ]
          try simp only [List.set_cons_zero]
          refine wpAnyH_done (by kernel_rfl) ?_ _
          refine NoPanic.normal ?_
          have KA2 := hid (KA.out.below (below_drew wr))
          have KS2 := hid (KS.out.below (below_drew wr))
          have KD2 := hid (KD.out.below (below_drew wr))
          have HB2 := hid (HB.out.trans (only_of_below (below_drew wr) (fun y => y = g + 2)))
          clear KA KS KD HB
          generalize wr.drew = v at *
          have y0 := KA2.out.cell (j := 0) rfl
          have y1 := KS2.out.cell (j := 0) rfl
          have y2 := KD2.out.cell (j := 0) rfl
          have f0 := KA2.out.free 0
          have KA3 := hid (KA2.out.set 0 (.int .i64 ((j : Int) + 1)))
          have KS3 : Hid (Bk (v.setCell ⟨g + 2, 0, none⟩ (.int .i64 ((j : Int) + 1))) g 9 [.string s]) := KS2.out.setOther (by omega) _ _
          have KD3 : Hid (Bk (v.setCell ⟨g + 2, 0, none⟩ (.int .i64 ((j : Int) + 1))) (g + 1) 21 [.int .i32 d.toNat]) := KD2.out.setOther (by omega) _ _
          have HB3 : Hid (Only (fun y => y = g + 2) w (v.setCell ⟨g + 2, 0, none⟩ (.int .i64 ((j : Int) + 1)))) := HB2.out.trans (only_set (R := fun y => y = g + 2) (p := ⟨g + 2, 0, none⟩) rfl _)
          have HN3 : Hid (∀ i (hi : i < s.size), k ≤ i → i < j + 1 → s[i] ≠ d) := fun i hi h1 h2 => by
            by_cases q : i < j
            · exact HN.out i hi h1 q
            · obtain rfl : i = j := by omega
              exact hd
          have j1 := HJ1.out
          have hc3 := KA3.out.cell (j := 0) rfl
          go_wp2
          generalize v.setCell ⟨g + 2, 0, none⟩ (.int .i64 ((j : Int) + 1)) = v3 at *
          go_roundw
          case rel => exact ⟨j + 1, by show _ ≤ _; omega, by show _ ≤ _; omega, HN3.out, KS3.out, KD3.out, by have := KA3.out; rwa [show ((j : Int) + 1) = ((j + 1 : Nat) : Int) by omega] at this, HB3.out⟩
          case measure => rw [hc3, HX0.out]; simp; omega
      · have hje : j = s.size := by have := HJ2.out; omega
        have hjn : ¬ (j : Int) < (s.size : Int) := by omega
        have HJE := hid hje
        clear hje
        go_wp2_with fail
        clear x0 x1 x2
        refine wp_region_noPanic ?_
        refine wp_region_held_drew (S := fun v => v.cell? ⟨g + 2, 0, none⟩ = some (.int .i64 j) ∧ v.cell? ⟨g, 0, none⟩ = some (.string s) ∧ v.cell? ⟨g + 1, 0, none⟩ = some (.int .i32 d.toNat)) (by kernel_rfl) (⟨(KA.out.below (below_drew _)).cell (j := 0) rfl, (KS.out.below (below_drew _)).cell (j := 0) rfl, (KD.out.below (below_drew _)).cell (j := 0) rfl⟩) (fun hHeld => ?_)
        simp only [List.size_toArray, List.length_cons, List.length_nil, Array.replicate_succ, Array.replicate_zero, Nat.reduceAdd, List.push_toArray, List.nil_append, List.cons_append]
        refine wpAnyH_take (i := 0) (v := (.int .i64 j)) rfl (by kernel_rfl) (by kernel_rfl) (by kernel_rfl) (fun _ _ _ h => h) (Or.inl ⟨by rfl, ?_⟩) (by assumption) ?_
        · intro w hSw
          (try dsimp only at hSw)
          go_simp
        try simp only [List.getElem_toArray]
        try simp only [List.getElem_cons_succ]
        try simp only [List.getElem_cons_zero]
        try simp only [Act.put]
        try simp only [List.setIfInBounds_toArray]
        try simp only [List.set_cons_succ]
        try simp only [List.set_cons_zero]
        refine wpAnyH_take (i := 1) (v := (.string s)) rfl (by kernel_rfl) (by kernel_rfl) (by kernel_rfl) (fun _ _ _ h => h) (Or.inl ⟨by rfl, ?_⟩) (by assumption) ?_
        · intro w hSw
          (try dsimp only at hSw)
          go_simp
        try simp only [List.getElem_toArray]
        try simp only [List.getElem_cons_succ]
        try simp only [List.getElem_cons_zero]
        try simp only [Act.put]
        try simp only [List.setIfInBounds_toArray]
        try simp only [List.set_cons_succ]
        try simp only [List.set_cons_zero]
        refine wpAnyH_take (i := 2) (v := (.int .i64 s.size)) rfl (by kernel_rfl) (by kernel_rfl) (by kernel_rfl) (fun _ _ _ h => h) (Or.inl ⟨by rfl, ?_⟩) (by assumption) ?_
        · intro w hSw
          (try dsimp only at hSw)
          go_simp
        try simp only [List.getElem_toArray]
        try simp only [List.getElem_cons_succ]
        try simp only [List.getElem_cons_zero]
        try simp only [Act.put]
        try simp only [List.setIfInBounds_toArray]
        try simp only [List.set_cons_succ]
        try simp only [List.set_cons_zero]
        refine wpAnyH_take (i := 3) (v := (.bool false)) rfl (by kernel_rfl) (by kernel_rfl) (by kernel_rfl) (fun _ _ _ h => h) (Or.inl ⟨by rfl, ?_⟩) (by assumption) ?_
        · intro w hSw
          (try dsimp only at hSw)
          go_simp
          all_goals (try omega)
        try simp only [List.getElem_toArray]
        try simp only [List.getElem_cons_succ]
        try simp only [List.getElem_cons_zero]
        try simp only [Act.put]
        try simp only [List.setIfInBounds_toArray]
        try simp only [List.set_cons_succ]
        try simp only [List.set_cons_zero]
        refine wpAnyH_take (i := 4) (v := (.bool false)) rfl (by kernel_rfl) (by kernel_rfl) (by kernel_rfl) (fun _ _ _ h => h) (Or.inl ⟨by rfl, ?_⟩) (by assumption) ?_
        · intro w hSw
          (try dsimp only at hSw)
          go_simp
        try simp only [List.getElem_toArray]
        try simp only [List.getElem_cons_succ]
        try simp only [List.getElem_cons_zero]
        try simp only [Act.put]
        try simp only [List.setIfInBounds_toArray]
        try simp only [List.set_cons_succ]
        try simp only [List.set_cons_zero]
        refine take_noW (i := 5) rfl (by kernel_rfl) (by kernel_rfl) (by kernel_rfl) (fun _ _ _ h => h) (by rfl) (by assumption) ?_
        try simp only [List.getElem_toArray]
        try simp only [List.getElem_cons_succ]
        try simp only [List.getElem_cons_zero]
        try simp only [Act.put]
        try simp only [List.setIfInBounds_toArray]
        try simp only [List.set_cons_succ]
        try simp only [List.set_cons_zero]
        refine take_noW (i := 6) rfl (by kernel_rfl) (by kernel_rfl) (by kernel_rfl) (fun _ _ _ h => h) (by rfl) (by assumption) ?_
        try simp only [List.getElem_toArray]
        try simp only [List.getElem_cons_succ]
        try simp only [List.getElem_cons_zero]
        try simp only [Act.put]
        try simp only [List.setIfInBounds_toArray]
        try simp only [List.set_cons_succ]
        try simp only [List.set_cons_zero]
        refine take_noW (i := 7) rfl (by kernel_rfl) (by kernel_rfl) (by kernel_rfl) (fun _ _ _ h => h) (by rfl) (by assumption) ?_
        try simp only [List.getElem_toArray]
        try simp only [List.getElem_cons_succ]
        try simp only [List.getElem_cons_zero]
        try simp only [Act.put]
        try simp only [List.setIfInBounds_toArray]
        try simp only [List.set_cons_succ]
        try simp only [List.set_cons_zero]
        refine take_noW (i := 8) rfl (by kernel_rfl) (by kernel_rfl) (by kernel_rfl) (fun _ _ _ h => h) (by rfl) (by assumption) ?_
        try simp only [List.getElem_toArray]
        try simp only [List.getElem_cons_succ]
        try simp only [List.getElem_cons_zero]
        try simp only [Act.put]
        try simp only [List.setIfInBounds_toArray]
        try simp only [List.set_cons_succ]
        try simp only [List.set_cons_zero]
        refine take_noW (i := 9) rfl (by kernel_rfl) (by kernel_rfl) (by kernel_rfl) (fun _ _ _ h => h) (by rfl) (by assumption) ?_
        try simp only [List.getElem_toArray]
        try simp only [List.getElem_cons_succ]
        try simp only [List.getElem_cons_zero]
        try simp only [Act.put]
        try simp only [List.setIfInBounds_toArray]
        try simp only [List.set_cons_succ]
        try simp only [List.set_cons_zero]
        refine take_noW (i := 10) rfl (by kernel_rfl) (by kernel_rfl) (by kernel_rfl) (fun _ _ _ h => h) (by rfl) (by assumption) ?_
        try simp only [List.getElem_toArray]
        try simp only [List.getElem_cons_succ]
        try simp only [List.getElem_cons_zero]
        try simp only [Act.put]
        try simp only [List.setIfInBounds_toArray]
        try simp only [List.set_cons_succ]
        try simp only [List.set_cons_zero]
        refine wpAnyH_take (i := 11) (v := (.bool false)) rfl (by kernel_rfl) (by kernel_rfl) (by kernel_rfl) (fun _ _ _ h => h) (Or.inl ⟨by rfl, ?_⟩) (by assumption) ?_
        · intro w hSw
          (try dsimp only at hSw)
          go_simp
        try simp only [List.getElem_toArray]
        try simp only [List.getElem_cons_succ]
        try simp only [List.getElem_cons_zero]
        try simp only [Act.put]
        try simp only [List.setIfInBounds_toArray]
        try simp only [List.set_cons_succ]
        try simp only [List.set_cons_zero]
        refine wpAnyH_done (by kernel_rfl) ?_ _
        refine NoPanic.normal ?_
        have KA2 := hid (KA.out.below (below_drew wr))
        have KS2 := hid (KS.out.below (below_drew wr))
        have KD2 := hid (KD.out.below (below_drew wr))
        have HB2 := hid (HB.out.trans (only_of_below (below_drew wr) (fun y => y = g + 2)))
        clear KA KS KD HB
        generalize wr.drew = v at *
        have y0 := KA2.out.cell (j := 0) rfl
        have y1 := KS2.out.cell (j := 0) rfl
        have y2 := KD2.out.cell (j := 0) rfl
        have f0 := KA2.out.free 0
        have HE := hid (pcK_step d s k j hk HJ1.out HJ2.out HN.out (.inl HJE.out))
        have KA3 := hid (KA2.out.set 0 (.int .i64 ((j : Int) + 1)))
        have KS3 : Hid (Bk (v.setCell ⟨g + 2, 0, none⟩ (.int .i64 ((j : Int) + 1))) g 9 [.string s]) := KS2.out.setOther (by omega) _ _
        have KD3 : Hid (Bk (v.setCell ⟨g + 2, 0, none⟩ (.int .i64 ((j : Int) + 1))) (g + 1) 21 [.int .i32 d.toNat]) := KD2.out.setOther (by omega) _ _
        have HB3 : Hid (Only (fun y => y = g + 2) w (v.setCell ⟨g + 2, 0, none⟩ (.int .i64 ((j : Int) + 1)))) := HB2.out.trans (only_set (R := fun y => y = g + 2) (p := ⟨g + 2, 0, none⟩) rfl _)
        have j1 := HJ1.out
        have j2 := HJ2.out
        have jk : (k : Int) ≤ (j : Int) := by omega
        have js : (j : Int) ≤ (s.size : Int) := by omega
        go_wp2
        go_ret2
        refine ⟨by rw [hL, HE.out]; simp [rdW], ⟨j + 1, by omega, KS3.out, KD3.out, ?_, by rw [hL, HE.out]; rfl⟩, HB3.out⟩
        have := KA3.out
        rwa [show ((j : Int) + 1) = ((j + 1 : Nat) : Int) by omega] at this
  · have HE : Hid (LL = []) := by show _ = _; rw [hL]; exact pcK_end d s k (by omega)
    have hk' : (s.size : Int) ≤ (k : Int) := by omega
    have hks : ¬ (k : Int) < (s.size : Int) := by omega
    go_enter Tryz.func42, Tryz.ntmps42
    go_wp2
    go_ret2
    refine ⟨by rw [HE.out]; rfl, ⟨k, hk1, KS0.out, KD0.out, KA0.out, ?_⟩, Only.refl _ _⟩
    rw [HE.out, ← hL, HE.out]; rfl
end Go.Proofs.YtjddkofpfmjojaaGreatDoor
/-
  Blocks that may be written.
-/
namespace Go.Proofs.YtjddkofpfmjojaaGreatDoor
open Go.RowKit
/-- Block b is a row that may be written. -/
def Uf (w : World) (b : Nat) : Prop := ∃ xs T, w.heap[b]? = some (.cells xs T (0, 0))
theorem Bk.uf {w : World} {g : Nat} {T : TypeId} {xs : List Value} (h : Bk w g T xs) : Uf w g := ⟨_, _, h⟩
theorem Uf.to {w w' : World} {b : Nat} {R : Nat → Prop} (h : Uf w b) (ho : Only R w w') (hR : ¬ R b) : Uf w' b := by
  obtain ⟨xs, T, h⟩ := h
  exact ⟨xs, T, (ho.block b (Array.getElem?_eq_some_iff.1 h).1 hR).trans h⟩
end Go.Proofs.YtjddkofpfmjojaaGreatDoor
/-
  Disks as plain data, and what is read through the slices of a disk.
-/
namespace Go.Proofs.YtjddkofpfmjojaaGreatDoor
open Go.RowKit
abbrev DW := Int × List Int
def byt (zs : List Int) : Prop := ∀ i : Nat, 0 ≤ zs[i]?.getD 0 ∧ zs[i]?.getD 0 ≤ 255
def shAt (ss : List (List Int)) (i : Nat) : List Int := ss[i]?.getD []
def dwAt (ds : List DW) (i : Nat) : DW := ds[i]?.getD (0, [])
def uAt (V : List Value) (i : Nat) : Value := V[i]?.getD (.slice none 0 0)
def xAt (U : List (Int × Value)) (i : Nat) : Int × Value := U[i]?.getD (0, .slice none 0 0)
theorem uAt_some {V : List Value} {i : Nat} (h : i < V.length) : V[i]? = some (uAt V i) := by simp [uAt, h]
/-- The slice value v leads to the bytes zs. -/
def By (w : World) (S : Nat → Prop) (v : Value) (zs : List Int) : Prop := Rw w S v zs.length (zs.map (Value.int .u8)) ∧ byt zs
theorem By.to {w w' : World} {S R : Nat → Prop} {v : Value} {zs : List Int} (h : By w S v zs) (ho : Only R w w') (hd : ∀ b, S b → b < w.heap.size → ¬ R b) : By w' S v zs := ⟨h.1.to ho hd, h.2⟩
theorem By.mono {w : World} {S R : Nat → Prop} {v : Value} {zs : List Int} (h : By w S v zs) (hd : ∀ b, S b → b < w.heap.size → R b) : By w R v zs := ⟨h.1.mono hd, h.2⟩
theorem By.below {w w' : World} {S : Nat → Prop} {v : Value} {zs : List Int} (h : By w S v zs) (hb : Below w.heap.size w w') : By w' S v zs := ⟨h.1.below hb, h.2⟩
theorem By.len {w : World} {S : Nat → Prop} {a : Option Addr} {n c : Nat} {zs : List Int} (h : By w S (.slice a n c) zs) : n = zs.length ∧ n ≤ c ∧ c ≤ 9223372036854775807 := Rw.len h.1
theorem By.rd {w : World} {S : Nat → Prop} {a : Option Addr} {n c : Nat} {zs : List Int} (h : By w S (.slice a n c) zs) (hn : n ≤ 1048576) : Rd w a n c zs := by
  obtain ⟨h1, h2, h3⟩ := h.len
  refine ⟨h1, h2, h3, by omega, h.2, fun hp => ?_⟩
  obtain ⟨b, off, e, _, hb, hc⟩ := Rw.at h.1 hp
  exact ⟨b, off, e, hb, fun i hi => hc i _ (by simp [show i < zs.length by omega])⟩
theorem by_ob {w : World} {B : Nat} {v : Value} {zs : List Int} (h : Ob w B v zs) (hb : byt zs) {S : Nat → Prop} (hS : ∀ k, v.ownBlock = some k → B ≤ k → k < w.heap.size → S k) : By w S v zs := ⟨rw_own h hS, hb⟩
/-- The slice value v leads to the sheets ss. -/
def Shr (w : World) (S : Nat → Prop) (v : Value) (ss : List (List Int)) : Prop := ∃ V : List Value, V.length = ss.length ∧ Rw w S v ss.length V ∧ ∀ i, i < ss.length → By w S (uAt V i) (shAt ss i)
theorem Shr.to {w w' : World} {S R : Nat → Prop} {v : Value} {ss : List (List Int)} (h : Shr w S v ss) (ho : Only R w w') (hd : ∀ b, S b → b < w.heap.size → ¬ R b) : Shr w' S v ss := by
  obtain ⟨V, h1, h2, h3⟩ := h
  exact ⟨V, h1, h2.to ho hd, fun i hi => (h3 i hi).to ho hd⟩
theorem Shr.mono {w : World} {S R : Nat → Prop} {v : Value} {ss : List (List Int)} (h : Shr w S v ss) (hd : ∀ b, S b → b < w.heap.size → R b) : Shr w R v ss := by
  obtain ⟨V, h1, h2, h3⟩ := h
  exact ⟨V, h1, h2.mono hd, fun i hi => (h3 i hi).mono hd⟩
theorem Shr.below {w w' : World} {S : Nat → Prop} {v : Value} {ss : List (List Int)} (h : Shr w S v ss) (hb : Below w.heap.size w w') : Shr w' S v ss := h.to (only_of_below hb (fun _ => False)) (fun _ _ _ h => h)
theorem Shr.shape {w : World} {S : Nat → Prop} {v : Value} {ss : List (List Int)} (h : Shr w S v ss) : ∃ a c, v = .slice a ss.length c ∧ ss.length ≤ c ∧ c ≤ 9223372036854775807 := by
  obtain ⟨V, h1, h2, h3⟩ := h
  exact h2.shape
theorem Shr.len {w : World} {S : Nat → Prop} {a : Option Addr} {n c : Nat} {ss : List (List Int)} (h : Shr w S (.slice a n c) ss) : n = ss.length ∧ n ≤ c ∧ c ≤ 9223372036854775807 := by
  obtain ⟨V, h1, h2, h3⟩ := h
  exact Rw.len h2
theorem Rw.sliceOf {w : World} {S : Nat → Prop} {v : Value} {n : Nat} {xs : List Value} (h : Rw w S v n xs) : ∃ a c, v = .slice a n c := by
  obtain ⟨a, c, h, _⟩ := h
  exact ⟨a, c, h⟩
theorem Shr.at {w : World} {S : Nat → Prop} {a : Option Addr} {n c : Nat} {ss : List (List Int)} (h : Shr w S (.slice a n c) ss) (hp : 0 < n) : ∃ b off, a = some ⟨b, off, none⟩ ∧ S b ∧ b < w.heap.size ∧ ∀ i, i < n → ∃ ap np cp,
    w.cell? ⟨b, off + i, none⟩ = some (.slice ap np cp) ∧ By w S (.slice ap np cp) (shAt ss i) := by
  obtain ⟨V, h1, h2, h3⟩ := h
  have hn := (Rw.len h2).1
  obtain ⟨b, off, e1, e2, e3, e4⟩ := h2.at hp
  refine ⟨b, off, e1, e2, e3, fun i hi => ?_⟩
  have k1 := h3 i (by omega)
  have d0 := e4 i _ (uAt_some (by omega))
  obtain ⟨ap, cp, g0⟩ := k1.1.sliceOf
  rw [g0] at d0 k1
  exact ⟨ap, _, cp, d0, k1⟩
/-- The cells of a list of writes. -/
def wcs : List (Int × Value) → List Value
  | [] => []
  | p :: ps => .int .i64 p.1 :: p.2 :: wcs ps
theorem wcs_length (ps : List (Int × Value)) : (wcs ps).length = ps.length * 2 := by
  induction ps with
  | nil => rfl
  | cons p ps ih => simp only [wcs, List.length_cons, ih]; omega
theorem wcs_append (ps qs : List (Int × Value)) : wcs (ps ++ qs) = wcs ps ++ wcs qs := by
  induction ps with
  | nil => rfl
  | cons p ps ih => simp only [wcs, List.cons_append, ih]
theorem wcs_at (ps : List (Int × Value)) : ∀ i, i < ps.length → (wcs ps)[i * 2]? = some (.int .i64 (xAt ps i).1) ∧ (wcs ps)[i * 2 + 1]? = some (xAt ps i).2 := by
  induction ps with
  | nil => intro i h; exact absurd h (Nat.not_lt_zero _)
  | cons p ps ih =>
    intro i h
    cases i with
    | zero => exact ⟨rfl, rfl⟩
    | succ i =>
      have := ih i (by simpa using h)
      have e : (i + 1) * 2 = i * 2 + 2 := by omega
      rw [e]
      exact this
theorem wcs_set (ps : List (Int × Value)) (p : Int × Value) : ∀ j, j < ps.length → wcs (ps.set j p) = ((wcs ps).set (j * 2) (.int .i64 p.1)).set (j * 2 + 1) p.2 := by
  induction ps with
  | nil => intro j h; exact absurd h (Nat.not_lt_zero _)
  | cons q ps ih =>
    intro j h
    cases j with
    | zero => rfl
    | succ j =>
      have := ih j (by simpa using h)
      rw [show (j + 1) * 2 = j * 2 + 2 by omega, show j * 2 + 2 + 1 = j * 2 + 1 + 2 by omega]
      show .int .i64 q.1 :: q.2 :: wcs (ps.set j p) = _
      rw [this]
      rfl
/-- The slice value v leads to the writes ds. -/
def Wrr (w : World) (S : Nat → Prop) (v : Value) (ds : List DW) : Prop := ∃ U : List (Int × Value), U.length = ds.length ∧ Rw w S v ds.length (wcs U) ∧ ∀ i, i < ds.length → (xAt U i).1 = (dwAt ds i).1 ∧ By w S (xAt U i).2 (dwAt ds i).2
theorem Wrr.to {w w' : World} {S R : Nat → Prop} {v : Value} {ds : List DW} (h : Wrr w S v ds) (ho : Only R w w') (hd : ∀ b, S b → b < w.heap.size → ¬ R b) : Wrr w' S v ds := by
  obtain ⟨V, h1, h2, h3⟩ := h
  exact ⟨V, h1, h2.to ho hd, fun i hi => ⟨(h3 i hi).1, (h3 i hi).2.to ho hd⟩⟩
theorem Wrr.mono {w : World} {S R : Nat → Prop} {v : Value} {ds : List DW} (h : Wrr w S v ds) (hd : ∀ b, S b → b < w.heap.size → R b) : Wrr w R v ds := by
  obtain ⟨V, h1, h2, h3⟩ := h
  exact ⟨V, h1, h2.mono hd, fun i hi => ⟨(h3 i hi).1, (h3 i hi).2.mono hd⟩⟩
theorem Wrr.below {w w' : World} {S : Nat → Prop} {v : Value} {ds : List DW} (h : Wrr w S v ds) (hb : Below w.heap.size w w') : Wrr w' S v ds := h.to (only_of_below hb (fun _ => False)) (fun _ _ _ h => h)
theorem Wrr.shape {w : World} {S : Nat → Prop} {v : Value} {ds : List DW} (h : Wrr w S v ds) : ∃ a c, v = .slice a ds.length c ∧ ds.length ≤ c ∧ c ≤ 9223372036854775807 := by
  obtain ⟨V, h1, h2, h3⟩ := h
  exact h2.shape
theorem Wrr.len {w : World} {S : Nat → Prop} {a : Option Addr} {n c : Nat} {ds : List DW} (h : Wrr w S (.slice a n c) ds) : n = ds.length ∧ n ≤ c ∧ c ≤ 9223372036854775807 := by
  obtain ⟨V, h1, h2, h3⟩ := h
  exact Rw.len h2
theorem Wrr.at {w : World} {S : Nat → Prop} {a : Option Addr} {n c : Nat} {ds : List DW} (h : Wrr w S (.slice a n c) ds) (hp : 0 < n) : ∃ b off, a = some ⟨b, off, none⟩ ∧ S b ∧ b < w.heap.size ∧ ∀ i, i < n → ∃ ap np cp,
    w.cell? ⟨b, off + i * 2, none⟩ = some (.int .i64 (dwAt ds i).1) ∧ w.cell? ⟨b, off + i * 2 + 1, none⟩ = some (.slice ap np cp) ∧ By w S (.slice ap np cp) (dwAt ds i).2 := by
  obtain ⟨V, h1, h2, h3⟩ := h
  have hn := (Rw.len h2).1
  obtain ⟨b, off, e1, e2, e3, e4⟩ := h2.at hp
  refine ⟨b, off, e1, e2, e3, fun i hi => ?_⟩
  obtain ⟨k0, k1⟩ := h3 i (by omega)
  obtain ⟨c0, c1⟩ := wcs_at V i (by omega)
  have d0 := e4 _ _ c0
  have d1 := e4 _ _ c1
  obtain ⟨ap, cp, g0⟩ := k1.1.sliceOf
  rw [g0] at d1 k1
  rw [k0] at d0
  exact ⟨ap, _, cp, d0, d1, k1⟩
/-- A disk as plain data: its sheets, what waits. -/
structure DK where
  sh : List (List Int)
  dw : List DW
instance : DecidableEq DK := fun a b => decidable_of_iff (a.sh = b.sh ∧ a.dw = b.dw) (by cases a; cases b; simp)
/-- The two slices of a disk lead to d. -/
structure Dk (w : World) (S : Nat → Prop) (sa : Option Addr) (sn sc : Nat) (da : Option Addr) (dn dc : Nat) (d : DK) : Prop where
  hs : Shr w S (.slice sa sn sc) d.sh
  hd : Wrr w S (.slice da dn dc) d.dw
theorem Dk.to {w w' : World} {S R : Nat → Prop} {sa : Option Addr} {sn sc : Nat} {da : Option Addr} {dn dc : Nat} {d : DK} (h : Dk w S sa sn sc da dn dc d) (ho : Only R w w') (hd : ∀ b, S b → b < w.heap.size → ¬ R b) : Dk w' S sa sn sc da dn dc d := ⟨h.hs.to ho hd, h.hd.to ho hd⟩
theorem Dk.mono {w : World} {S R : Nat → Prop} {sa : Option Addr} {sn sc : Nat} {da : Option Addr} {dn dc : Nat} {d : DK} (h : Dk w S sa sn sc da dn dc d) (hd : ∀ b, S b → b < w.heap.size → R b) : Dk w R sa sn sc da dn dc d := ⟨h.hs.mono hd, h.hd.mono hd⟩
theorem Dk.below {w w' : World} {S : Nat → Prop} {sa : Option Addr} {sn sc : Nat} {da : Option Addr} {dn dc : Nat} {d : DK} (h : Dk w S sa sn sc da dn dc d) (hb : Below w.heap.size w w') : Dk w' S sa sn sc da dn dc d := ⟨h.hs.below hb, h.hd.below hb⟩
/-- All its lists are small. -/
def smallD (d : DK) : Prop := (∀ i, i < d.sh.length → (shAt d.sh i).length ≤ 1048576) ∧ ∀ i, i < d.dw.length → (dwAt d.dw i).2.length ≤ 1048576
/-- When a disk is right. -/
def shtOk (l : List Int) : Bool := decide (l.length = 0) || decide (l.length = 512)
def wrtOk (n : Nat) (p : DW) : Bool := decide (0 ≤ p.1) && decide (p.1 < (n : Int)) && decide (p.2.length = 512)
def dkOk (d : DK) : Bool := decide (2 ≤ d.sh.length) && decide (d.sh.length ≤ 400) && decide (d.dw.length ≤ 500) && d.sh.all shtOk && d.dw.all (wrtOk d.sh.length)
theorem allD_at {α : Type} {f : α → Bool} {l : List α} (z : α) : l.all f = true ↔ ∀ i, i < l.length → f (l[i]?.getD z) = true := by
  rw [List.all_eq_true]
  constructor
  · intro h i hi
    rw [List.getElem?_eq_getElem hi]
    exact h _ (List.getElem_mem hi)
  · intro h x hx
    obtain ⟨i, hi, rfl⟩ := List.mem_iff_getElem.1 hx
    have := h i hi
    rwa [List.getElem?_eq_getElem hi] at this
theorem all_not {α : Type} {f : α → Bool} {l : List α} (z : α) {i : Nat} (hi : i < l.length) (h : f (l[i]?.getD z) = false) : l.all f = false := by
  cases e : l.all f with
  | false => rfl
  | true => rw [(allD_at z).1 e i hi] at h; cases h
end Go.Proofs.YtjddkofpfmjojaaGreatDoor
/-
  Disks whose lists are their own and apart from each other.
-/
namespace Go.Proofs.YtjddkofpfmjojaaGreatDoor
open Go.RowKit
theorem ownD_base {w : World} {B B' : Nat} {e : TypeId} {size : Nat} {v : Value} {n : Nat} {xs : List Value} (h : w.ownsRow B e size v n xs) (hB : B' ≤ B) : w.ownsRow B' e size v n xs := by
  refine ⟨h.1, h.2.imp id ?_⟩
  rintro ⟨g, cap, cur, k1, k2, k3⟩
  exact ⟨g, cap, cur, k1, by omega, k3⟩
theorem bk_own {w : World} {g B : Nat} {T : TypeId} {xs : List Value} {n size : Nat} (h : Bk w g T xs) (hl : xs.length = n * size) (hn : n ≤ 1048576) (hB : B ≤ g) : w.ownsRow B T size (.slice (some ⟨g, 0, none⟩) n n) n xs :=
  ⟨hl, .inr ⟨g, n, xs.toArray, rfl, hB, h, Nat.le_refl _, by unfold maxLen; omega, by simpa using hl, by simp [← hl]⟩⟩
theorem bk_ob {w : World} {g B : Nat} {zs : List Int} (h : Bk w g 5 (zs.map (Value.int .u8))) (hn : zs.length ≤ 1048576) (hB : B ≤ g) : Ob w B (.slice (some ⟨g, 0, none⟩) zs.length zs.length) zs :=
  bk_own h (by simp) hn hB
theorem ownD_set {w : World} {B : Nat} {E : TypeId} {s g n c m : Nat} {xs : List Value} (h : w.ownsRow B E s (.slice (some ⟨g, 0, none⟩) n c) m xs) (j : Nat) (u : Value) : (w.setCell ⟨g, j, none⟩ u).ownsRow B E s (.slice (some ⟨g, 0, none⟩) n c) m (xs.set j u) := by
  obtain ⟨k1, k2⟩ := h
  rcases k2 with ⟨k2, _⟩ | ⟨g', cap, cur, e, k3, k4, k5, k6, k7, k8⟩
  · cases k2
  · cases e
    refine ⟨by simpa using k1, .inr ⟨g, c, cur.setIfInBounds j u, rfl, k3, ?_, k5, k6, by simpa using k7, ?_⟩⟩
    · simp [World.setCell, Array.getElem?_modify, k4]
    · rw [← k8]
      simp only [Array.toList_setIfInBounds, List.take_set]
theorem own_at {w : World} {B : Nat} {E : TypeId} {s : Nat} {a : Option Addr} {n c m : Nat} {xs : List Value} (h : w.ownsRow B E s (.slice a n c) m xs) : n = m ∧ n ≤ c ∧ c ≤ 9223372036854775807 ∧ (0 < n → ∃ g, a = some ⟨g, 0, none⟩ ∧ B ≤ g ∧ g < w.heap.size ∧ (∀ o, w.frozen? ⟨g, o, none⟩ = false) ∧ ∀ (j : Nat) u, xs[j]? = some u → w.cell? ⟨g, j, none⟩ = some u) := by
  have hc := fun g hg => World.ownsRow.cells h (g := g) hg
  have hlt := World.ownsRow.lt h
  rcases h.2 with ⟨e, e2⟩ | ⟨g, cap, cur, e, hB, hg, k5, k6, k7, k8⟩
  · cases e; exact ⟨e2.symm, Nat.le_refl _, by omega, fun h => by omega⟩
  · have e2 : a = some ⟨g, 0, none⟩ ∧ n = m ∧ c = cap := by cases e; exact ⟨rfl, rfl, rfl⟩
    obtain ⟨rfl, rfl, rfl⟩ := e2
    refine ⟨rfl, k5, by unfold maxLen at k6; omega, fun _ => ⟨g, rfl, hB, (hlt g rfl).2, fun o => by simp [World.frozen?, hg], fun j u hu => ?_⟩⟩
    have := hc g rfl j u hu
    rwa [Addr.add_lit, Nat.zero_add] at this
def sbl (v : Value) (V : List Value) (y : Nat) : Prop := v.ownBlock = some y ∨ ∃ i, i < V.length ∧ (uAt V i).ownBlock = some y
theorem uAt_left {V : List Value} {p : Value} {i : Nat} (h : i < V.length) : uAt (V ++ [p]) i = uAt V i := by simp [uAt, List.getElem?_append_left h]
theorem uAt_end (V : List Value) (p : Value) : uAt (V ++ [p]) V.length = p := by simp [uAt]
theorem shAt_left {V : List (List Int)} {p : List Int} {i : Nat} (h : i < V.length) : shAt (V ++ [p]) i = shAt V i := by simp [shAt, List.getElem?_append_left h]
theorem shAt_end (V : List (List Int)) (p : List Int) : shAt (V ++ [p]) V.length = p := by simp [shAt]
theorem uAt_set {V : List Value} {p : Value} {i : Nat} (h : i < V.length) : uAt (V.set i p) i = p := by simp [uAt, h]
theorem uAt_other {V : List Value} {p : Value} {i j : Nat} (h : i ≠ j) : uAt (V.set j p) i = uAt V i := by simp [uAt, Ne.symm h]
theorem shAt_set {V : List (List Int)} {p : List Int} {i : Nat} (h : i < V.length) : shAt (V.set i p) i = p := by simp [shAt, h]
theorem shAt_other {V : List (List Int)} {p : List Int} {i j : Nat} (h : i ≠ j) : shAt (V.set j p) i = shAt V i := by simp [shAt, Ne.symm h]
def wbl (v : Value) (U : List (Int × Value)) (y : Nat) : Prop := v.ownBlock = some y ∨ ∃ i, i < U.length ∧ (xAt U i).2.ownBlock = some y
theorem xAt_left {U : List (Int × Value)} {p : Int × Value} {i : Nat} (h : i < U.length) : xAt (U ++ [p]) i = xAt U i := by simp [xAt, List.getElem?_append_left h]
theorem xAt_end (U : List (Int × Value)) (p : Int × Value) : xAt (U ++ [p]) U.length = p := by simp [xAt]
theorem wAt_left {U : List DW} {p : DW} {i : Nat} (h : i < U.length) : dwAt (U ++ [p]) i = dwAt U i := by simp [dwAt, List.getElem?_append_left h]
theorem wAt_end (U : List DW) (p : DW) : dwAt (U ++ [p]) U.length = p := by simp [dwAt]
theorem xAt_set {V : List (Int × Value)} {p : Int × Value} {i : Nat} (h : i < V.length) : xAt (V.set i p) i = p := by simp [xAt, h]
theorem xAt_other {V : List (Int × Value)} {p : Int × Value} {i j : Nat} (h : i ≠ j) : xAt (V.set j p) i = xAt V i := by simp [xAt, Ne.symm h]
def dbl (sv : Value) (V : List Value) (dv : Value) (U : List (Int × Value)) (y : Nat) : Prop := sbl sv V y ∨ wbl dv U y
end Go.Proofs.YtjddkofpfmjojaaGreatDoor
/-
  The words of a step, as the program writes them.
-/
namespace Go.Proofs.YtjddkofpfmjojaaGreatDoor
open Go.RowKit
set_option linter.unusedVariables false
/-- An owned row of texts. -/
def OW (w : World) (B : Nat) (v : Value) (ws : List ByteArray) : Prop := w.ownsRow B 9 1 v ws.length (ws.map Value.string)
theorem OW.to {w w' : World} {R : Nat → Prop} {B : Nat} {v : Value} {ws : List ByteArray} (h : OW w B v ws) (ho : Only R w w') (hR : ∀ k, v.ownBlock = some k → ¬ R k) : OW w' B v ws := own_kept h ho hR
theorem OW.below {w w' : World} {B : Nat} {v : Value} {ws : List ByteArray} (h : OW w B v ws) (hb : Below w.heap.size w w') : OW w' B v ws := h.to (only_of_below hb (fun _ => False)) (fun _ _ h => h)
theorem OW.lower {w : World} {B C : Nat} {v : Value} {ws : List ByteArray} (h : OW w B v ws) (hC : C ≤ B) : OW w C v ws := by
  obtain ⟨h1, h2⟩ := h
  refine ⟨h1, ?_⟩
  rcases h2 with h2 | ⟨g, cap, cur, a, b, c⟩
  · exact .inl h2
  · exact .inr ⟨g, cap, cur, a, Nat.le_trans hC b, c⟩
/-- What a function leaves that answers a new row of texts. -/
def WsP (ws : List ByteArray) (w : World) (e : Ending) (w' : World) : Prop := ∃ a n c, e = .returned (.slice a n c) ∧ OW w' w.heap.size (.slice a n c) ws ∧ Below w.heap.size w w'
/-- Texts behind texts. -/
theorem wpList_append_ws {w : World} {ops : Array Oper} {rest : List Oper} {o : Oper} {a : Act} {Q : Exit → Act → World → Prop} (hgd : o.guard = none) (s x : Operand)
    (ho : o.op = .call { callee := .builtin .append, args := #[s, x], argTypes := #[41, 41] }) (B C : Nat) (v : Value) (ws : List ByteArray) (hs : a.eval s = v) (hown : OW w B v ws)
    (u : Value) (vs : List ByteArray) (hx : a.eval x = u) (hsrc : OW w C u vs) (hb : ws.length + vs.length ≤ 4194304) (hbase : B ≤ w.heap.size)
    (h : ∀ a' n' c' w', OW w' B (.slice a' n' c') (ws ++ vs) → w.grownBy w' v.ownBlock → ((Value.slice a' n' c').ownBlock = v.ownBlock ∨ (Value.slice a' n' c').ownBlock = some w.heap.size) → wpList Tryz.prog ops Q rest (a.put o.dst (.slice a' n' c')) w') : wpList Tryz.prog ops Q (o :: rest) a w := by
  obtain ⟨i, hi, hz, hsz, hby⟩ := info_of infoStr'
  refine wpList_append_row_at hgd s x 41 ho B 9 i _ 1 16 Tryz.underlying41 hi hz hsz hby rfl (by decide) v ws.length (ws.map Value.string) hs hown (fun _ => True) u vs.length (vs.map Value.string) hx (rw_own hsrc (fun _ _ _ _ => trivial)) (by simp)
    (by intro u hu; obtain ⟨y, _, rfl⟩ := List.mem_map.1 hu; rfl) (by unfold maxLen; omega) (by omega) hbase ?_
  intro v' w' k1 k2 k3
  obtain ⟨a', c', rfl⟩ := own_shape k1
  refine h a' _ c' w' ?_ k2 k3
  show World.ownsRow _ _ _ _ _ _ _
  rw [List.length_append, List.map_append]
  exact k1
theorem OW.one {w : World} {g B : Nat} {z : ByteArray} (h : Bk w g 9 [.string z]) (hB : B ≤ g) : OW w B (.slice (some ⟨g, 0, none⟩) 1 1) [z] := bk_own h rfl (by decide) hB
set_option maxHeartbeats 800000 in
theorem stepWords_any (w : World) : Calls Tryz.prog 37 #[] w fun e w' => e = .returned (.slice (some ⟨w.heap.size, 0, none⟩) 10 10) ∧ Bk w' w.heap.size 9 (stWs.map Value.string) ∧ Below w.heap.size w w' := by
  have B0 : Hid (Below w.heap.size w (w.alloc (.cells (stWs.map Value.string).toArray 9))) := below_new (Below.refl _ _)
  have K0 := hid (Bk.new w 9 (stWs.map Value.string))
  go_enter Tryz.func37, Tryz.ntmps37
  go_wp2
  go_ret
  exact ⟨rfl, K0.out, B0.out⟩
theorem sw_no {k : Int} (h : k < 0 ∨ 10 ≤ k) : sw k = ⟨#[]⟩ := by
  unfold sw
  split
  · rw [List.getElem?_eq_none (by show 10 ≤ k.toNat; omega)]; rfl
  · rfl
theorem sw_at {k : Nat} (h : k < 10) : (stWs.map Value.string)[k]? = some (.string (sw (k : Int))) := by
  have : k = 0 ∨ k = 1 ∨ k = 2 ∨ k = 3 ∨ k = 4 ∨ k = 5 ∨ k = 6 ∨ k = 7 ∨ k = 8 ∨ k = 9 := by omega
  rcases this with rfl | rfl | rfl | rfl | rfl | rfl | rfl | rfl | rfl | rfl <;> rfl
set_option maxHeartbeats 1600000 in
theorem stepWord_any (k : Int) (w : World) : Calls Tryz.prog 55 #[.int .i64 k] w fun e w' => e = .returned (.string (sw k)) ∧ Below w.heap.size w w' := by
  have C1 := hid (fun w => stepWords_any w)
  by_cases h0 : k < 0
  · have HV := hid (sw_no (k := k) (.inl h0))
    go_enter Tryz.func55, Tryz.ntmps55
    go_wp2_with fail
    refine (C1.out _).mono ?_
    rintro e w1 ⟨rfl, hk, hb⟩
    have HB := hid hb
    clear hk hb
    go_wp2
    go_ret
    exact ⟨by rw [HV.out]; rfl, HB.out⟩
  · by_cases h1 : 10 ≤ k
    · have HV := hid (sw_no (k := k) (.inr h1))
      go_enter Tryz.func55, Tryz.ntmps55
      go_wp2_with fail
      refine (C1.out _).mono ?_
      rintro e w1 ⟨rfl, hk, hb⟩
      have HB := hid hb
      clear hk hb
      go_wp2
      go_ret
      exact ⟨by rw [HV.out]; rfl, HB.out⟩
    · obtain ⟨n, rfl⟩ : ∃ n : Nat, k = n := ⟨k.toNat, by omega⟩
      have hn : n < 10 := by omega
      have hn' : (n : Int) < 10 := by omega
      go_enter Tryz.func55, Tryz.ntmps55
      go_wp2_with fail
      refine (C1.out _).mono ?_
      rintro e w1 ⟨rfl, hk, hb⟩
      have HB := hid hb
      have hc := hk.cell (j := n) (sw_at hn)
      clear hk hb
      go_wp2
      go_ret
      exact ⟨rfl, HB.out⟩
set_option maxHeartbeats 800000 in
theorem callWord_any (k : Int) (w : World) : Calls Tryz.prog 71 #[.int .i64 k] w fun e w' => e = .returned (.string (cwd k)) ∧ w' = w := by
  unfold cwd
  by_cases h1 : k = 1
  · subst h1
    go_enter Tryz.func71, Tryz.ntmps71
    go_wp2
    go_ret
    exact ⟨rfl, rfl⟩
  by_cases h2 : k = 2
  · subst h2
    go_enter Tryz.func71, Tryz.ntmps71
    go_wp2
    go_ret
    exact ⟨rfl, rfl⟩
  by_cases h3 : k = 3
  · subst h3
    go_enter Tryz.func71, Tryz.ntmps71
    go_wp2
    go_ret
    exact ⟨rfl, rfl⟩
  by_cases h4 : k = 4
  · subst h4
    go_enter Tryz.func71, Tryz.ntmps71
    go_wp2
    go_ret
    exact ⟨rfl, rfl⟩
  rw [if_neg h1, if_neg h2, if_neg h3, if_neg h4]
  go_enter Tryz.func71, Tryz.ntmps71
  go_wp2
  go_ret
  exact ⟨rfl, rfl⟩
/-- make([]T, 0, n). -/
theorem run_make_0 {P : Program} (t e : TypeId) (z : Value) (size bytes : Nat) (ht : P.underlying t = some (.slice e)) (hinfo : (P.info? e).map (fun i => (i.zero, i.size, i.bytes)) = some (some z, size, bytes)) (n : Nat) (hb : bytes * n ≤ 281474976710656) (h63 : n ≤ 9223372036854775807) (w : World) :
    (Instr.makeSlice t (.int .i64 0) (.int .i64 (n : Int))).run P w = .ok (.slice (some ⟨w.heap.size, 0, none⟩) 0 n) (w.alloc (.cells (madeCells z.cells (n * size)) e)) := by
  obtain ⟨i, hi, hz⟩ := Option.map_eq_some_iff.1 hinfo
  simp only [Prod.mk.injEq] at hz
  obtain ⟨hz, rfl, rfl⟩ := hz
  have hb' : (i.bytes : Int) * (n : Int) ≤ 281474976710656 := by
    have h : ((i.bytes * n : Nat) : Int) ≤ 281474976710656 := by omega
    rwa [Int.natCast_mul] at h
  have := run_make (P := P) w t e i z ht hi hz .i64 .i64 0 n (Int.le_refl _) (by omega) hb' (by omega)
  simpa using this
theorem take_numS (l : List Int) (k : Nat) (h : k < l.length) : (l.map numS).take (k + 1) = (l.map numS).take k ++ [numS (iAt l k)] := by
  rw [List.take_succ_eq_append_getElem (by rw [List.length_map]; exact h)]
  congr 1
  simp [iAt, h]
set_option maxHeartbeats 3200000 in
theorem wordsOfInt_any (S : Nat → Prop) (a : Option Addr) (n c : Nat) (l : List Int) (w : World) (h : Ir w S (.slice a n c) l) (hn : n ≤ 1048576) (ht : Tab w) (hg : 5 < w.heap.size) :
    Calls Tryz.prog 57 #[.slice a n c, .func (.func 52) #[] #[]] w fun e w' => WsP (l.map numS) w e w' := by
  unfold WsP
  have HN : Hid (n = l.length) := (Rw.len h).1
  have H0 := hid h
  have HT := hid ht
  have HG := hid hg
  have CN := hid (fun n w ht => implNumText_any n w ht)
  have hmk : ∀ w : World, (Instr.makeSlice 41 (.int .i64 0) (.int .i64 (n : Int))).run Tryz.prog w = .ok (.slice (some ⟨w.heap.size, 0, none⟩) 0 n) (w.alloc (.cells (madeCells #[Value.string ⟨#[]⟩] n) 9)) := fun w => by
    have := run_make_0 (P := Tryz.prog) 41 9 (.string ⟨#[]⟩) 1 16 Tryz.underlying41 infoStr' n (by omega) (by omega) w
    rwa [Nat.mul_one] at this
  have O0 : Hid (OW (w.alloc (.cells (madeCells #[Value.string ⟨#[]⟩] n) 9)) w.heap.size (.slice (some ⟨w.heap.size, 0, none⟩) 0 n) []) := World.ownsRow_made w _ n (Nat.le_refl _) (by unfold maxLen; omega) (by simp [madeCells])
  have B0 : Hid (Below w.heap.size w (w.alloc (.cells (madeCells #[Value.string ⟨#[]⟩] n) 9))) := below_new (Below.refl _ _)
  clear h ht hg
  go_enter Tryz.func57, Tryz.ntmps57
  go_wp2_with fail
  go_loopw [5, 7, 13] (fun x _ i v => ∃ (k : Nat) (xa : Option Addr) (xn xc : Nat), x = .slice xa xn xc ∧ i = .int .i64 k ∧ k ≤ n ∧ Hid (Below w.heap.size w v) ∧ Hid (OW v w.heap.size (.slice xa xn xc) ((l.map numS).take k))) (fun _ _ i _ => n - (intOf i).toNat)
  case atStart => exact ⟨0, _, _, _, rfl, rfl, Nat.zero_le _, B0.out, O0.out⟩
  case round =>
    clear O0 B0 hmk
    obtain ⟨k, xa, xn, xc, rfl, rfl, hk, HB, HO⟩ := hrel
    by_cases hlt : k < n
    · have hlt' : (k : Int) < (n : Int) := by omega
      obtain ⟨b, off, rfl, -, -, hcell⟩ := (Ir.below H0.out HB.out).at (by omega : 0 < n)
      have hc := hcell k hlt
      have HS := hid (take_numS l k (by rw [← HN.out]; exact hlt))
      clear hcell
      go_wp2_with fail
      refine (CN.out _ _ (HT.out.below HB.out HG.out)).mono ?_
      rintro e w1 ⟨rfl, hb⟩
      have hb2 := hb.alloc hb.size (.cells #[.string (numS (iAt l k))] 9)
      have HB1 := hid (HB.out.trans (hb2.mono HB.out.size))
      have HO1 := hid (HO.out.below hb2)
      have N1 := hid (OW.one (Bk.new w1 9 [.string (numS (iAt l k))]) (Nat.le_refl _))
      have hl1 : ((l.map numS).take k).length + [numS (iAt l k)].length ≤ 4194304 := by simp; omega
      clear hb hb2 HB HO hc
      go_wp2_with (at_builtin; refine wpList_append_ws rfl _ _ rfl w.heap.size _ _ _ rfl HO1.out _ _ rfl N1.out hl1 HB1.out.size ?_)
      intro a' n' c' w4 hO4 hg4 _
      have HB4 : Hid (Below w.heap.size w w4) := HB1.out.trans ((only_of_grown hg4 (R := fun y => (Value.slice xa xn xc).ownBlock = some y) (fun k q => q)).below HB1.out.size (fun b hb q => by have := (World.ownsRow.lt HO1.out b q).1; omega))
      have HO4 : Hid (OW w4 w.heap.size (.slice a' n' c') ((l.map numS).take (k + 1))) := by
        show OW _ _ _ _
        rw [HS.out]; exact hO4
      clear hO4 hg4 HO1 HB1 N1 hl1
      go_wp2
      go_roundw
      case rel => exact ⟨k + 1, a', n', c', rfl, by go_num, by omega, HB4.out, HO4.out⟩
      case measure => simp [intOf]; omega
    · have HE : Hid ((l.map numS).take k = l.map numS) := List.take_of_length_le (by rw [List.length_map, ← HN.out]; omega)
      go_wp2
      go_ret
      exact ⟨xa, xn, xc, rfl, by have := HO.out; rwa [HE.out] at this, HB.out⟩
end Go.Proofs.YtjddkofpfmjojaaGreatDoor
