/- What sha's Compress answers. No claim of its own. -/
import Derived.Test.YtigakkmoigfboaaPush
namespace Go.Proofs.Ytigakkmoigfboaa
open Go.RowKit

section
variable {ops : Array Oper} {rest : List Oper} {o : Oper} {a : Act} {Q : Exit → Act → World → Prop}
/-- a variable that is an array gets a place; the world gets a name -/
theorem new_lawF (w : World) (hg : o.guard = none) (t : TypeId) (hop : o.op = Op.alloc t) (k : IntKind) (xs : List Int) (hz : (Try.prog.info? t).map (fun i => (i.zero, i.size)) = some (some (.agg (ints k xs)), xs.length))
    (hK : ∀ w', Ar w' w.heap.size 0 k xs → Below w.heap.size w w' → w.heap.size < w'.heap.size → wpList Try.prog ops Q rest (a.put o.dst (.pointer (some ⟨w.heap.size, 0, none⟩))) w') :
    wpList Try.prog ops Q (o :: rest) a w :=
  new_law w hg t hop k xs hz (hK _ (Ar.new w t k xs) ((Below.refl _ _).alloc (Nat.le_refl _) _) (by simp))
/-- a whole array is written; the world gets a name -/
theorem store_lawF (w : World) (hg : o.guard = none) (x y : Operand) (t : TypeId) (hop : o.op = Op.store t x y) (k : IntKind) (xs ys : List Int) (b : Nat) (hx : a.eval x = .pointer (some ⟨b, 0, none⟩)) (hy : a.eval y = .agg (ints k ys))
    (hA : Ar w b 0 k xs) (n : Nat) (hi : (Try.prog.info? t).map (·.size) = some n) (hl : xs.length = n) (hn : ys.length = n)
    (hK : ∀ w', Ar w' b 0 k ys → Below b w w' → wpList Try.prog ops Q rest (a.put o.dst undef) w') :
    wpList Try.prog ops Q (o :: rest) a w := by
  have ht : w.there b 0 ys.length := by rw [hn, ← hl]; exact hA.2
  exact store_law w hg x y t hop k ys b 0 hx hy ht n hi hn (hK _ (Ar.whole ht) (Lib.below_setCells _ (Nat.le_refl _) _ _ (Below.refl _ _)))
/-- 'copy(d, s)' of bytes that fill all of d; the world gets a name -/
theorem copy_lawF (w : World) (hg : o.guard = none) (x y : Operand) (hop : o.op = .call { callee := .builtin .copy, args := #[x, y], argTypes := #[22, 22] })
    (b n dc : Nat) (v : Value) (xs ys : List Int) (hx : a.eval x = .slice (some ⟨b, 0, none⟩) n dc) (hy : a.eval y = v) (hb : Byt w v ys) (hA : Ar w b 0 .u8 xs) (hl : xs.length = n) (hn : ys.length = n)
    (hK : ∀ w', Ar w' b 0 .u8 ys → Below b w w' → wpList Try.prog ops Q rest (a.put o.dst (.int .i64 (n : Int))) w') :
    wpList Try.prog ops Q (o :: rest) a w := by
  have ht : w.there b 0 ys.length := by rw [hn, ← hl]; exact hA.2
  have e : min ys.length n = n := by omega
  refine copy_law w hg x y hop b 0 n dc v ys hx hy hb (by rw [e, ← hn]; exact ht) ?_
  rw [e, List.take_of_length_le (by omega)]
  exact hK _ (Ar.whole ht) (Lib.below_setCells _ (Nat.le_refl _) _ _ (Below.refl _ _))
/-- 'copy(d, s)' of words that fill all of d; the world gets a name -/
theorem copyW_lawF (w : World) (hg : o.guard = none) (x y : Operand) (hop : o.op = .call { callee := .builtin .copy, args := #[x, y], argTypes := #[27, 27] })
    (b n dc : Nat) (v : Value) (xs ys : List Int) (hx : a.eval x = .slice (some ⟨b, 0, none⟩) n dc) (hy : a.eval y = v) (hb : Wrd w v ys) (hA : Ar w b 0 .u32 xs) (hl : xs.length = n) (hn : ys.length = n) (hp : 0 < n)
    (hK : ∀ w', Ar w' b 0 .u32 ys → Below b w w' → wpList Try.prog ops Q rest (a.put o.dst (.int .i64 (n : Int))) w') :
    wpList Try.prog ops Q (o :: rest) a w := by
  have ht : w.there b 0 ys.length := by rw [hn, ← hl]; exact hA.2
  refine wpList_plain hg fun K hK' => ?_
  obtain ⟨i0, hi, hz0, hz1, hz2⟩ := info_parts info_u32
  obtain ⟨ao, cap, rfl, h1, h2, h3, h4, h5⟩ := hb
  have hs : (Try.prog.info? 32).map (·.size) = some 1 := by rw [hi]; simp [hz1]
  have hrun : (Builtin.copy_ #[27, 27] o.type #[.slice (some ⟨b, 0, none⟩) n dc, .slice ao ys.length cap]).run Try.prog w = .ok (.int .i64 (n : Int)) (w.setCells b 0 (ys.map (Value.int .u32))) := by
    obtain ⟨b', off, rfl, hc⟩ := h5 (by omega)
    have hlen : (ys.map (Value.int .u32)).length = min ys.length n := by simp; omega
    have := run_copy_cells (P := Try.prog) w 27 27 o.type 32 b 0 n dc ⟨b', off, none⟩ ys.length cap (ys.map (Value.int .u32)) Try.underlying27 hs hlen (fun j u hj => by
      have hj' : j < min ys.length n := by rw [← hlen]; exact (List.getElem?_eq_some_iff.1 hj).1
      rw [Addr.add_mid, hc j (by omega), ← hj]
      simp [gb, List.getD, show j < ys.length by omega]) (fun j hj => (ht j (by simpa using hj)).1) (fun j hj => (ht j (by simpa using hj)).2) (fun u hu => by
      simp only [List.mem_map] at hu
      obtain ⟨x, _, rfl⟩ := hu
      rfl)
    rw [this, hlen, show min ys.length n = n by omega]; rfl
  unfold Oper.wp execOp
  simp only [hop, resolve, invoke, builtin, Sem.run_bind, Sem.run_pure, Result.andThen_ok, List.map_toArray, List.map_cons, List.map_nil, hx, hy, hrun]
  exact hK' _ _ (hK _ (Ar.whole ht) (Lib.below_setCells _ (Nat.le_refl _) _ _ (Below.refl _ _)))
/-- 'x[:]' of an array -/
theorem arr_all (w : World) (hg : o.guard = none) (s : Operand) (t : TypeId) (hop : o.op = Op.slice t s none none none) (b n : Nat) (hs : a.eval s = .pointer (some ⟨b, 0, none⟩))
    (hu : Try.prog.underlying t = some (.array (Try.prog.arrayLen t) (Try.prog.elem t))) (hl : Try.prog.arrayLen t = n) (hz : (sizeOf (Try.prog.elem t)).run Try.prog w = .ok 1 w)
    (hK : wpList Try.prog ops Q rest (a.put o.dst (.slice (some ⟨b, 0, none⟩) n n)) w) :
    wpList Try.prog ops Q (o :: rest) a w := by
  refine wpList_plain hg fun K hK' => ?_
  have hrun := run_sliceAt_array_all (P := Try.prog) w t ⟨b, 0, none⟩ hu
  rw [hz, hl] at hrun
  unfold Oper.wp execOp
  simp only [hop, hs, Option.map, Sem.run_bind, Sem.run_pure, hrun, Result.andThen]
  have hv : slicedAt ⟨b, 0, none⟩ 0 n n 1 = .slice (some ⟨b, 0, none⟩) n n := by
    unfold slicedAt
    rw [Nat.zero_mul, Addr.add_mid]
    simp
  rw [hv]
  exact hK' _ _ hK
end
theorem und_arr8 : Try.prog.underlying 41 = some (.array (Try.prog.arrayLen 41) (Try.prog.elem 41)) := by kernel_rfl
theorem len_arr8 : Try.prog.arrayLen 41 = 8 := by kernel_rfl
theorem elem_arr8 : Try.prog.elem 41 = 32 := by kernel_rfl
theorem size_arr8 (w : World) : (sizeOf (Try.prog.elem 41)).run Try.prog w = .ok 1 w := by rw [elem_arr8]; exact run_size_u32 w
theorem size_arr64b (w : World) : (sizeOf (Try.prog.elem 42)).run Try.prog w = .ok 1 w := by rw [elem_arr64b]; exact run_size_u8 w

set_option maxRecDepth 100000 in
set_option maxHeartbeats 2000000 in
theorem compressP_any (w : World) (s v : Value) (st bs : List Int) (hs : Wrd w s st) (hb : Byt w v bs) :
    Calls Try.prog 13 #[s, v] w fun e w' => Below w.heap.size w w' ∧ (st.length = 8 ∧ bs.length = 64 → ∃ r, e = .returned (.tuple #[r, .int .i64 0]) ∧ Wrd w' r (comp st bs)) ∧ (¬ (st.length = 8 ∧ bs.length = 64) → e = .returned (.tuple #[.slice none 0 0, .int .i64 2])) := by
  have HS : Hid (Wrd w s st) := hs
  have HB : Hid (Byt w v bs) := hb
  have AS : Hid (AllW st) := hs.all
  have AB : Hid (AllB bs) := hb.all
  have HC : Hid (AllW (comp st bs)) := comp_all st bs
  have HCL : Hid ((comp st bs).length = 8) := comp_len st bs
  have HCC : Hid (∀ w, st.length = 8 → bs.length = 64 → Calls Try.prog 23 #[.agg (ints .u32 st), .agg (ints .u8 bs)] w fun e w' => e = .returned (.agg (ints .u32 (comp st bs))) ∧ Below w.heap.size w w') := fun w h1 h2 => compress_any st bs w AS.out h1 AB.out h2
  generalize comp st bs = cm at *
  obtain ⟨ao, cap, rfl, hv1, hv2, -, -, -⟩ := hs
  obtain ⟨bo, cbp, rfl, hc1, hc2, -, -, -⟩ := hb
  obtain ⟨n, hn⟩ : ∃ n, n = st.length := ⟨_, rfl⟩
  obtain ⟨m, hm⟩ : ∃ m, m = bs.length := ⟨_, rfl⟩
  rw [← hn] at hv1 HS HCC ⊢
  rw [← hm] at hc1 HB HCC ⊢
  have HN : Hid (n = st.length) := hn
  have HM : Hid (m = bs.length) := hm
  clear hn hm
  by_cases h8 : n = 8
  · subst h8
    by_cases h64 : m = 64
    · subst h64
      go_enter Try.func13, Try.ntmps13
      go_wp2_with (first
        | (refine new_lawF _ rfl 41 rfl .u32 z8 z_arr8 ?_; intro w1 A1 B1 s1; have HA1 : Hid (Ar w1 w.heap.size 0 .u32 z8) := A1; have q01 : Below w.heap.size w w1 := B1; have HS1 : Hid (Wrd w1 (.slice ao 8 cap) st) := HS.out.below B1; clear A1)
        | (refine arr_all _ rfl (.tmp 6) 41 rfl w.heap.size 8 rfl und_arr8 len_arr8 (size_arr8 _) ?_)
        | (refine copyW_lawF _ rfl (.tmp 17) (.tmp 18) rfl w.heap.size 8 8 _ z8 st rfl rfl HS1.out HA1.out rfl HN.out.symm (by omega) ?_; intro w2 A2 B2; have HA2 : Hid (Ar w2 w.heap.size 0 .u32 st) := A2; clear A2; have s2 := B2.size; have C2 : Below w.heap.size w w2 := B1.trans B2)
        | (refine new_lawF _ rfl 42 rfl .u8 z64 z_arr64b ?_; intro w3 A3 B3 s3; have HA3 : Hid (Ar w3 w2.heap.size 0 .u8 z64) := A3; clear A3; have C3 : Below w.heap.size w w3 := C2.trans (B3.mono (by omega)); have HB3 : Hid (Byt w3 (.slice bo 64 cbp) bs) := HB.out.below C3)
        | (refine arr_all _ rfl (.tmp 7) 42 rfl w2.heap.size 64 rfl und_arr64b len_arr64b (size_arr64b _) ?_)
        | (refine copy_lawF _ rfl (.tmp 20) (.tmp 21) rfl w2.heap.size 64 64 _ z64 bs rfl rfl HB3.out HA3.out rfl HM.out.symm ?_; intro w4 A4 B4; have HA4 : Hid (Ar w4 w2.heap.size 0 .u8 bs) := A4; clear A4; have s4 := B4.size; have HL4 : Hid (Ar w4 w.heap.size 0 .u32 st) := (HA2.out.below B3 (by omega)).below B4 (by omega); have C4 : Below w.heap.size w w4 := C3.trans (B4.mono (by omega)))
        | (refine load_law _ rfl (.tmp 6) 41 rfl .u32 st _ _ rfl HL4.out 8 32 Try.underlying41 i_arr8 HN.out.symm ?_)
        | (refine load_law _ rfl (.tmp 7) 42 rfl .u8 bs _ _ rfl HA4.out 64 5 Try.underlying42 i_arr64b HM.out.symm ?_)
        | (go_at_call 23; refine (HCC.out _ rfl rfl).mono ?_; rintro e w5 ⟨rfl, B5⟩; have s5 := B5.size; have C5 : Below w.heap.size w w5 := C4.trans (B5.mono (by omega)))
        | (refine new_lawF _ rfl 41 rfl .u32 z8 z_arr8 ?_; intro w6 A6 B6 s6; have HA6 : Hid (Ar w6 w5.heap.size 0 .u32 z8) := A6; clear A6; have C6 : Below w.heap.size w w6 := C5.trans (B6.mono (by omega)))
        | (refine store_lawF _ rfl (.tmp 8) (.tmp 25) 41 rfl .u32 z8 cm w5.heap.size rfl rfl HA6.out 8 i_arr8 rfl HCL.out ?_; intro w7 A7 B7; have HA7 : Hid (Ar w7 w5.heap.size 0 .u32 cm) := A7; clear A7; have C7 : Below w.heap.size w w7 := C6.trans (B7.mono (by omega)))
        | (refine arr_all _ rfl (.tmp 8) 41 rfl w5.heap.size 8 rfl und_arr8 len_arr8 (size_arr8 _) ?_))
      go_ret2
      refine ⟨C7, fun _ => ⟨_, rfl, ?_⟩, fun h => absurd ⟨trivial, trivial⟩ h⟩
      have := HA7.out.wrd HC.out (by rw [HCL.out]; omega)
      rwa [HCL.out] at this
    · have q1 : ¬ (m : Int) = 64 := by omega
      go_enter Try.func13, Try.ntmps13
      go_wp2
      go_ret2
      exact ⟨Below.refl _ _, rfl⟩
  · have q1 : ¬ (n : Int) = 8 := by omega
    go_enter Try.func13, Try.ntmps13
    go_wp2
    go_ret2
    exact ⟨Below.refl _ _, fun h => absurd h.1 h8, fun _ => rfl⟩
end Go.Proofs.Ytigakkmoigfboaa
