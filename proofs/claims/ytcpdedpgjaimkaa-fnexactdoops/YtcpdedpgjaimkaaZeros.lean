/-
  'append(v, make([]byte, k)...)' onto a slice of bytes that the call owns; '[]byte(s)' as a slice that is read.
-/
import Derived.Test.YtcpdedpgjaimkaaApp
import Derived.Laws.IdiomStrings
namespace Go.Proofs.Ytcpdedpgjaimkaa
open Go.RowKit

theorem zeroCells_one (k : Nat) : Builtin.zeroCells #[.int .u8 0] k = (List.replicate k (Value.int .u8 0)).toArray := by
  apply Array.ext
  · simp [Builtin.zeroCells]
  · intro i h1 h2
    simp [Builtin.zeroCells, Nat.mod_one]

theorem run_append_zeros {w : World} (ty : TypeId) (base : Nat) (v : Value) (zs : List Int) (hown : Ob w base v zs) (k : Nat) (hb : zs.length + k ≤ 70368744177664) (hbase : base ≤ w.heap.size) :
    ∃ v' w', (Builtin.append_ #[22, 3] ty #[v, .int .i64 (k : Int)]).run Try.prog w = .ok v' w' ∧ Ob w' base v' (zs ++ List.replicate k 0) ∧ w.grownBy w' v.ownBlock := by
  obtain ⟨i0, hi, hz0, hz1, hz2⟩ := info_parts infoU8
  have hwr : IntKind.i64.wrap (k : Int) = k := by rw [IntKind.wrap_i64]; omega
  have hneg : ¬ ((k : Int) < 0) := by omega
  have h48 : ¬ (281474976710656 < (k : Int)) := by omega
  have ht := Try.underlying22
  have htn := Try.underlying3
  have grown : ∀ (old : Nat), old < zs.length + k → ∀ (row : Option Nat),
      Ob (w.drew.alloc (.cells ((zs.map (Value.int .u8)).toArray ++ Builtin.zeroCells #[.int .u8 0] k ++ Builtin.zeroCells #[.int .u8 0] (grownCap w (zs.length + k) old 5 - (zs.length + k))) 5)) base
        (.slice (some ⟨w.heap.size, 0, none⟩) (zs.length + k) (grownCap w (zs.length + k) old 5)) (zs ++ List.replicate k 0) ∧
      w.grownBy (w.drew.alloc (.cells ((zs.map (Value.int .u8)).toArray ++ Builtin.zeroCells #[.int .u8 0] k ++ Builtin.zeroCells #[.int .u8 0] (grownCap w (zs.length + k) old 5 - (zs.length + k))) 5)) row := by
    intro old ho row
    have hge := grownCap_ge w (zs.length + k) old 5
    have hcm : grownCap w (zs.length + k) old 5 ≤ maxLen := grownCap_le_maxLen w (zs.length + k) old 5 (by unfold maxLen; omega)
    have hl : (zs ++ List.replicate k (0 : Int)).length = zs.length + k := by simp
    refine ⟨⟨by simp, .inr ⟨w.heap.size, _, _, by rw [hl], hbase, heap_alloc_new w.drew _, by rw [hl]; exact hge, hcm, ?_, ?_⟩⟩, ⟨rfl, rfl, rfl, by simp, fun j hj _ => Below.heap_alloc w.drew _ j hj⟩⟩
    · simp [zeroCells_one]; omega
    · rw [hl, zeroCells_one, Nat.mul_one]
      simp only [Array.toList_append, List.map_append, List.map_replicate]
      rw [List.take_left' (by simp)]
  have hcc : (Value.int .u8 0).cells = #[.int .u8 0] := rfl
  rcases hown.2 with ⟨rfl, h0⟩ | ⟨g, cap, cur, rfl, hbg, hg, hnc, hcm, hcs, htake⟩
  · have hx : zs = [] := List.eq_nil_of_length_eq_zero h0
    subst hx
    by_cases hk : k = 0
    · subst hk
      refine ⟨.slice none 0 0, w, ?_, World.ownsRow_nil w base 5 1, ⟨rfl, rfl, rfl, Nat.le_refl _, fun _ _ _ => rfl⟩⟩
      simp [Builtin.append_, run_underlying ht, run_underlying htn, sizeOf, typeInfo, hi, hz2, asInt, asIntOf, IntKind.wrap_i64]
    · have hgr := grown 0 (by simp; omega) (Value.ownBlock (.slice none 0 0))
      simp only [List.length_nil, Nat.zero_add, List.map_nil, List.nil_append, Array.empty_append] at hgr ⊢
      refine ⟨_, _, ?_, hgr.1, hgr.2⟩
      have h63 : ¬ (9223372036854775807 < (k : Int)) := by omega
      have hfit := growslice_fits (need := k) (old := 0) (bytes := 1) (by omega) (by omega)
      have hfit' : ¬ (281474976710656 < Builtin.nextslicecap k 0) := by omega
      have hk' : ¬ k ≤ 0 := by omega
      simp [Builtin.append_, run_underlying ht, run_underlying htn, sizeOf, typeInfo, hi, hz0, hz1, hz2, asInt, asIntOf, hwr, hneg, h48, hk, h63, hfit', zeroValue, hcc, Question.forced, Builtin.firstCells, newRow, grownCap]
  · by_cases hroom : zs.length + k ≤ cap
    · have hst := run_storeCells_at Try.prog g zs.length 5 (List.replicate k (.int .u8 0)) 0 cur w hg (by simp; omega) (by intro v hv; obtain ⟨_, rfl⟩ := List.mem_replicate.1 hv; rfl)
      simp only [Nat.add_zero, List.length_replicate] at hst
      have hr : (Builtin.append_ #[22, 3] ty #[.slice (some ⟨g, 0, none⟩) zs.length cap, .int .i64 (k : Int)]).run Try.prog w = .ok (.slice (some ⟨g, 0, none⟩) (zs.length + k) cap) (w.setRow g (cur.toList.take zs.length ++ List.replicate k (Value.int .u8 0) ++ cur.toList.drop (zs.length + k)).toArray) := by
        by_cases hk : k = 0
        · subst hk
          simp only [List.replicate_zero, List.append_nil, Nat.add_zero, List.take_append_drop, Array.toArray_toList] at hst ⊢
          simp [Builtin.append_, run_underlying ht, run_underlying htn, sizeOf, typeInfo, hi, hz1, hz2, asInt, asIntOf, IntKind.wrap_i64, hnc, Addr.add_lit, hst]
        · simp [Builtin.append_, run_underlying ht, run_underlying htn, sizeOf, typeInfo, hi, hz0, hz1, hz2, asInt, asIntOf, hwr, hneg, h48, hk, hroom, zeroValue, hcc, zeroCells_one, Addr.add_lit, hst]
      refine ⟨_, _, hr, ⟨by simp, .inr ⟨g, cap, _, by simp, hbg, setRow_heap w g cur _ 5 _ hg, by simp; exact hroom, hcm, ?_, ?_⟩⟩, ⟨rfl, rfl, rfl, by simp, fun j _ hj => setRow_other w g j _ (fun e => hj (by simp [Value.ownBlock, e]))⟩⟩
      · simp only [List.size_toArray, List.length_append, List.length_take, List.length_drop, List.length_replicate, Array.length_toList]
        omega
      · have ht2 : cur.toList.take zs.length = zs.map (Value.int .u8) := by rw [← htake, Nat.mul_one]
        rw [ht2]
        simp only [List.map_append, List.map_replicate]
        rw [List.take_left' (by simp)]
    · have holds := hown.cells (g := g) rfl
      have hold : (Builtin.firstCells 1 zs.length (.slice (some ⟨g, 0, none⟩) zs.length cap)).run Try.prog w.drew = .ok (zs.map (Value.int .u8)).toArray w.drew := run_firstCells_some w.drew 1 zs.length ⟨g, 0, none⟩ zs.length cap (zs.map (Value.int .u8)) (by simp) holds
      have hgr := grown cap (by omega) (Value.ownBlock (.slice (some ⟨g, 0, none⟩) zs.length cap))
      refine ⟨_, _, ?_, hgr.1, hgr.2⟩
      have h63 : ¬ (9223372036854775807 < (zs.length : Int) + (k : Int)) := by omega
      have hfit := growslice_fits (need := zs.length + k) (old := cap) (bytes := 1) (by omega) (by omega)
      have hfit' : ¬ (281474976710656 < Builtin.nextslicecap (zs.length + k) cap) := by omega
      have hk : ¬ k = 0 := by omega
      simp [Builtin.append_, run_underlying ht, run_underlying htn, sizeOf, typeInfo, hi, hz0, hz1, hz2, asInt, asIntOf, hwr, hneg, h48, hk, h63, hfit', hroom, zeroValue, hcc, Question.forced, hold, newRow, grownCap]

theorem wpList_append_zeros {w : World} {ops : Array Oper} {rest : List Oper} {o : Oper} {a : Act} {Q : Exit → Act → World → Prop} (hgd : o.guard = none) (s x : Operand)
    (ho : o.op = .call { callee := .builtin .append, args := #[s, x], argTypes := #[22, 3] }) (base : Nat) (v : Value) (zs : List Int) (hs : a.eval s = v) (hown : Ob w base v zs)
    (k : Nat) (hx : a.eval x = .int .i64 (k : Int)) (hb : zs.length + k ≤ 70368744177664) (hbase : base ≤ w.heap.size)
    (h : ∀ v' w', Ob w' base v' (zs ++ List.replicate k 0) → w.grownBy w' v.ownBlock → wpList Try.prog ops Q rest (a.put o.dst v') w') : wpList Try.prog ops Q (o :: rest) a w := by
  refine wpList_plain hgd fun K hK => ?_
  obtain ⟨v', w', hr, h2, h3⟩ := run_append_zeros (w := w) o.type base v zs hown k hb hbase
  unfold Oper.wp execOp
  simp only [ho, resolve, invoke, builtin, Sem.run_bind, Sem.run_pure, Result.andThen_ok, List.map_toArray, List.map_cons, List.map_nil, hs, hx, hr]
  exact hK _ _ (h v' w' h2 h3)

/-- The bytes of a string. -/
def bytesOf (s : ByteArray) : List Int := s.data.toList.map fun b => (b.toNat : Int)
theorem bytesOf_len (s : ByteArray) : (bytesOf s).length = s.size := by
  simp [bytesOf]
theorem bytesOf_byte (s : ByteArray) : ∀ z ∈ bytesOf s, 0 ≤ z ∧ z ≤ 255 := by
  intro z hz
  obtain ⟨b, _, rfl⟩ := List.mem_map.1 hz
  have := b.toNat_lt
  omega
theorem rd_conv (w : World) (s : ByteArray) (c : Nat) (fr : Nat × Nat) (hs : s.size ≤ 140737488355328) (hc : s.size ≤ c) (hm : c ≤ 9223372036854775807) :
    Rd (w.alloc (.cells (bytesRow s c) 5 fr)) (some ⟨w.heap.size, 0, none⟩) s.size c (bytesOf s) := by
  refine ⟨(bytesOf_len s).symm, hc, hm, hs, fun i => ?_, fun _ => ⟨w.heap.size, 0, rfl, by simp, fun i hi => ?_⟩⟩
  · by_cases hi : i < (bytesOf s).length
    · rw [List.getElem?_eq_getElem hi]; exact bytesOf_byte s _ (List.getElem_mem hi)
    · rw [List.getElem?_eq_none (by omega)]; simp
  · rw [World.cell?_alloc_mark]
    simp [bytesRow, bytesOf, Array.getElem?_append, hi]
end Go.Proofs.Ytcpdedpgjaimkaa

