/- What sha's Compress answers. No claim of its own. -/
import Derived.Test.YtaplllonomdgeaaPush
namespace Go.Proofs.Ytaplllonomdgeaa
open Go.RowKit

section
variable {ops : Array Oper} {rest : List Oper} {o : Oper} {a : Act} {Q : Exit → Act → World → Prop}
/-- a variable that is an array gets a place; the world gets a name -/
theorem new_lawF (w : World) (hg : o.guard = none) (t : TypeId) (hop : o.op = Op.alloc t) (k : IntKind) (xs : List Int) (hz : (Try.prog.info? t).map (fun i => (i.zero, i.size)) = some (some (.agg (ints k xs)), xs.length))
    (hK : ∀ w', Ar w' w.heap.size 0 k xs → Below w.heap.size w w' → w.heap.size < w'.heap.size → wpList Try.prog ops Q rest (a.put o.dst (.pointer (some ⟨w.heap.size, 0, none⟩))) w') :
    wpList Try.prog ops Q (o :: rest) a w :=
  new_law w hg t hop k xs hz (hK _ (Ar.new w t k xs) ((Below.refl _ _).alloc (Nat.le_refl _) _) (by simp))
/-- a whole array is written; the world gets a name -/
theorem store_lawF (w : World) (hg : o.guard = none) (x y : Operand) (t : TypeId) (hop : o.op = Op.store t x y) (k : IntKind) (xs ys : List Int) (b : Nat) (hx : a.eval x = .pointer (some ⟨b, 0, none⟩)) (hy : a.eval y = .agg (ints k ys))
    (hA : Ar w b 0 k xs) (n : Nat) (hi : (Try.prog.info? t).map (·.size) = some n) (hl : xs.length = n) (hn : ys.length = n)
    (hK : ∀ w', Ar w' b 0 k ys → Below b w w' → wpList Try.prog ops Q rest (a.put o.dst undef) w') :
    wpList Try.prog ops Q (o :: rest) a w := by
  have ht : w.there b 0 ys.length := by rw [hn, ← hl]; exact hA.2
  exact store_law w hg x y t hop k ys b 0 hx hy ht n hi hn (hK _ (Ar.whole ht) (Lib.below_setCells _ (Nat.le_refl _) _ _ (Below.refl _ _)))
/-- 'copy(d, s)' of bytes that fill all of d; the world gets a name -/
theorem copy_lawF (w : World) (hg : o.guard = none) (x y : Operand) (hop : o.op = .call { callee := .builtin .copy, args := #[x, y], argTypes := #[22, 22] })
    (b n dc : Nat) (v : Value) (xs ys : List Int) (hx : a.eval x = .slice (some ⟨b, 0, none⟩) n dc) (hy : a.eval y = v) (hb : Byt w v ys) (hA : Ar w b 0 .u8 xs) (hl : xs.length = n) (hn : ys.length = n)
    (hK : ∀ w', Ar w' b 0 .u8 ys → Below b w w' → wpList Try.prog ops Q rest (a.put o.dst (.int .i64 (n : Int))) w') :
    wpList Try.prog ops Q (o :: rest) a w := by
  have ht : w.there b 0 ys.length := by rw [hn, ← hl]; exact hA.2
  have e : min ys.length n = n := by omega
  refine copy_law w hg x y hop b 0 n dc v ys hx hy hb (by rw [e, ← hn]; exact ht) ?_
  rw [e, List.take_of_length_le (by omega)]
  exact hK _ (Ar.whole ht) (Lib.below_setCells _ (Nat.le_refl _) _ _ (Below.refl _ _))
/-- 'copy(d, s)' of words that fill all of d; the world gets a name -/
theorem copyW_lawF (w : World) (hg : o.guard = none) (x y : Operand) (hop : o.op = .call { callee := .builtin .copy, args := #[x, y], argTypes := #[56, 56] })
    (b n dc : Nat) (v : Value) (xs ys : List Int) (hx : a.eval x = .slice (some ⟨b, 0, none⟩) n dc) (hy : a.eval y = v) (hb : Wrd w v ys) (hA : Ar w b 0 .u32 xs) (hl : xs.length = n) (hn : ys.length = n) (hp : 0 < n)
    (hK : ∀ w', Ar w' b 0 .u32 ys → Below b w w' → wpList Try.prog ops Q rest (a.put o.dst (.int .i64 (n : Int))) w') :
    wpList Try.prog ops Q (o :: rest) a w := by
  have ht : w.there b 0 ys.length := by rw [hn, ← hl]; exact hA.2
  refine wpList_plain hg fun K hK' => ?_
  obtain ⟨i0, hi, hz0, hz1, hz2⟩ := info_parts info_u32
  obtain ⟨ao, cap, rfl, h1, h2, h3, h4, h5⟩ := hb
  have hs : (Try.prog.info? 59).map (·.size) = some 1 := by rw [hi]; simp [hz1]
  have hrun : (Builtin.copy_ #[56, 56] o.type #[.slice (some ⟨b, 0, none⟩) n dc, .slice ao ys.length cap]).run Try.prog w = .ok (.int .i64 (n : Int)) (w.setCells b 0 (ys.map (Value.int .u32))) := by
    obtain ⟨b', off, rfl, hc⟩ := h5 (by omega)
    have hlen : (ys.map (Value.int .u32)).length = min ys.length n := by simp; omega
    have := run_copy_cells (P := Try.prog) w 56 56 o.type 59 b 0 n dc ⟨b', off, none⟩ ys.length cap (ys.map (Value.int .u32)) Try.underlying56 hs hlen (fun j u hj => by
      have hj' : j < min ys.length n := by rw [← hlen]; exact (List.getElem?_eq_some_iff.1 hj).1
      rw [Addr.add_mid, hc j (by omega), ← hj]
      simp [gb, List.getD, show j < ys.length by omega]) (fun j hj => (ht j (by simpa using hj)).1) (fun j hj => (ht j (by simpa using hj)).2) (fun u hu => by
      simp only [List.mem_map] at hu
      obtain ⟨x, _, rfl⟩ := hu
      rfl)
    rw [this, hlen, show min ys.length n = n by omega]; rfl
  unfold Oper.wp execOp
  simp only [hop, resolve, invoke, builtin, Sem.run_bind, Sem.run_pure, Result.andThen_ok, List.map_toArray, List.map_cons, List.map_nil, hx, hy, hrun]
  exact hK' _ _ (hK _ (Ar.whole ht) (Lib.below_setCells _ (Nat.le_refl _) _ _ (Below.refl _ _)))
/-- 'x[:]' of an array -/
theorem arr_all (w : World) (hg : o.guard = none) (s : Operand) (t : TypeId) (hop : o.op = Op.slice t s none none none) (b n : Nat) (hs : a.eval s = .pointer (some ⟨b, 0, none⟩))
    (hu : Try.prog.underlying t = some (.array (Try.prog.arrayLen t) (Try.prog.elem t))) (hl : Try.prog.arrayLen t = n) (hz : (sizeOf (Try.prog.elem t)).run Try.prog w = .ok 1 w)
    (hK : wpList Try.prog ops Q rest (a.put o.dst (.slice (some ⟨b, 0, none⟩) n n)) w) :
    wpList Try.prog ops Q (o :: rest) a w := by
  refine wpList_plain hg fun K hK' => ?_
  have hrun := run_sliceAt_array_all (P := Try.prog) w t ⟨b, 0, none⟩ hu
  rw [hz, hl] at hrun
  unfold Oper.wp execOp
  simp only [hop, hs, Option.map, Sem.run_bind, Sem.run_pure, hrun, Result.andThen]
  have hv : slicedAt ⟨b, 0, none⟩ 0 n n 1 = .slice (some ⟨b, 0, none⟩) n n := by
    unfold slicedAt
    rw [Nat.zero_mul, Addr.add_mid]
    simp
  rw [hv]
  exact hK' _ _ hK
end
theorem und_arr8 : Try.prog.underlying 60 = some (.array (Try.prog.arrayLen 60) (Try.prog.elem 60)) := by kernel_rfl
theorem len_arr8 : Try.prog.arrayLen 60 = 8 := by kernel_rfl
theorem elem_arr8 : Try.prog.elem 60 = 59 := by kernel_rfl
theorem size_arr8 (w : World) : (sizeOf (Try.prog.elem 60)).run Try.prog w = .ok 1 w := by rw [elem_arr8]; exact run_size_u32 w
theorem size_arr64b (w : World) : (sizeOf (Try.prog.elem 42)).run Try.prog w = .ok 1 w := by rw [elem_arr64b]; exact run_size_u8 w
end Go.Proofs.Ytaplllonomdgeaa
