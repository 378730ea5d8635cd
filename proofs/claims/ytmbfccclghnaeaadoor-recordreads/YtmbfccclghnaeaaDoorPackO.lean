/- Texts put together (a claim holds few files). No claim of its own. -/
import Derived.Test.YtmbfccclghnaeaaDoorPackN
import Derived.Test.YtmbfccclghnaeaaDoorPackA
/- What sha's Compress answers. No claim of its own. -/
namespace Go.Proofs.YtmbfccclghnaeaaDoor.mc
open Go.RowKit
set_option maxRecDepth 20000

section
variable {ops : Array Oper} {rest : List Oper} {o : Oper} {a : Act} {Q : Exit → Act → World → Prop}
/-- a variable that is an array gets a place; the world gets a name -/
theorem new_lawF (w : World) (hg : o.guard = none) (t : TypeId) (hop : o.op = Op.alloc t) (k : IntKind) (xs : List Int) (hz : (Tryd.prog.info? t).map (fun i => (i.zero, i.size)) = some (some (.agg (ints k xs)), xs.length))
    (hK : ∀ w', Ar w' w.heap.size 0 k xs → Below w.heap.size w w' → w.heap.size < w'.heap.size → wpList Tryd.prog ops Q rest (a.put o.dst (.pointer (some ⟨w.heap.size, 0, none⟩))) w') :
    wpList Tryd.prog ops Q (o :: rest) a w :=
  new_law w hg t hop k xs hz (hK _ (Ar.new w t k xs) ((Below.refl _ _).alloc (Nat.le_refl _) _) (by simp))
/-- a whole array is written; the world gets a name -/
theorem store_lawF (w : World) (hg : o.guard = none) (x y : Operand) (t : TypeId) (hop : o.op = Op.store t x y) (k : IntKind) (xs ys : List Int) (b : Nat) (hx : a.eval x = .pointer (some ⟨b, 0, none⟩)) (hy : a.eval y = .agg (ints k ys))
    (hA : Ar w b 0 k xs) (n : Nat) (hi : (Tryd.prog.info? t).map (·.size) = some n) (hl : xs.length = n) (hn : ys.length = n)
    (hK : ∀ w', Ar w' b 0 k ys → Below b w w' → wpList Tryd.prog ops Q rest (a.put o.dst undef) w') :
    wpList Tryd.prog ops Q (o :: rest) a w := by
  have ht : w.there b 0 ys.length := by rw [hn, ← hl]; exact hA.2
  exact store_law w hg x y t hop k ys b 0 hx hy ht n hi hn (hK _ (Ar.whole ht) (Lib.below_setCells _ (Nat.le_refl _) _ _ (Below.refl _ _)))
/-- 'copy(d, s)' of bytes that fill all of d; the world gets a name -/
theorem copy_lawF (w : World) (hg : o.guard = none) (x y : Operand) (hop : o.op = .call { callee := .builtin .copy, args := #[x, y], argTypes := #[23, 23] })
    (b n dc : Nat) (v : Value) (xs ys : List Int) (hx : a.eval x = .slice (some ⟨b, 0, none⟩) n dc) (hy : a.eval y = v) (hb : Byt w v ys) (hA : Ar w b 0 .u8 xs) (hl : xs.length = n) (hn : ys.length = n)
    (hK : ∀ w', Ar w' b 0 .u8 ys → Below b w w' → wpList Tryd.prog ops Q rest (a.put o.dst (.int .i64 (n : Int))) w') :
    wpList Tryd.prog ops Q (o :: rest) a w := by
  have ht : w.there b 0 ys.length := by rw [hn, ← hl]; exact hA.2
  have e : min ys.length n = n := by omega
  refine copy_law w hg x y hop b 0 n dc v ys hx hy hb (by rw [e, ← hn]; exact ht) ?_
  rw [e, List.take_of_length_le (by omega)]
  exact hK _ (Ar.whole ht) (Lib.below_setCells _ (Nat.le_refl _) _ _ (Below.refl _ _))
/-- 'copy(d, s)' of words that fill all of d; the world gets a name -/
theorem copyW_lawF (w : World) (hg : o.guard = none) (x y : Operand) (hop : o.op = .call { callee := .builtin .copy, args := #[x, y], argTypes := #[104, 104] })
    (b n dc : Nat) (v : Value) (xs ys : List Int) (hx : a.eval x = .slice (some ⟨b, 0, none⟩) n dc) (hy : a.eval y = v) (hb : Wrd w v ys) (hA : Ar w b 0 .u32 xs) (hl : xs.length = n) (hn : ys.length = n) (hp : 0 < n)
    (hK : ∀ w', Ar w' b 0 .u32 ys → Below b w w' → wpList Tryd.prog ops Q rest (a.put o.dst (.int .i64 (n : Int))) w') :
    wpList Tryd.prog ops Q (o :: rest) a w := by
  have ht : w.there b 0 ys.length := by rw [hn, ← hl]; exact hA.2
  refine wpList_plain hg fun K hK' => ?_
  obtain ⟨i0, hi, hz0, hz1, hz2⟩ := info_parts info_u32
  obtain ⟨ao, cap, rfl, h1, h2, h3, h4, h5⟩ := hb
  have hs : (Tryd.prog.info? 107).map (·.size) = some 1 := by rw [hi]; simp [hz1]
  have hrun : (Builtin.copy_ #[104, 104] o.type #[.slice (some ⟨b, 0, none⟩) n dc, .slice ao ys.length cap]).run Tryd.prog w = .ok (.int .i64 (n : Int)) (w.setCells b 0 (ys.map (Value.int .u32))) := by
    obtain ⟨b', off, rfl, hc⟩ := h5 (by omega)
    have hlen : (ys.map (Value.int .u32)).length = min ys.length n := by simp; omega
    have := run_copy_cells (P := Tryd.prog) w 104 104 o.type 107 b 0 n dc ⟨b', off, none⟩ ys.length cap (ys.map (Value.int .u32)) Tryd.underlying104 hs hlen (fun j u hj => by
      have hj' : j < min ys.length n := by rw [← hlen]; exact (List.getElem?_eq_some_iff.1 hj).1
      rw [Addr.add_mid, hc j (by omega), ← hj]
      simp [gb, List.getD, show j < ys.length by omega]) (fun j hj => (ht j (by simpa using hj)).1) (fun j hj => (ht j (by simpa using hj)).2) (fun u hu => by
      simp only [List.mem_map] at hu
      obtain ⟨x, _, rfl⟩ := hu
      rfl)
    rw [this, hlen, show min ys.length n = n by omega]; rfl
  unfold Oper.wp execOp
  simp only [hop, resolve, invoke, builtin, Sem.run_bind, Sem.run_pure, Result.andThen_ok, List.map_toArray, List.map_cons, List.map_nil, hx, hy, hrun]
  exact hK' _ _ (hK _ (Ar.whole ht) (Lib.below_setCells _ (Nat.le_refl _) _ _ (Below.refl _ _)))
/-- 'x[:]' of an array -/
theorem arr_all (w : World) (hg : o.guard = none) (s : Operand) (t : TypeId) (hop : o.op = Op.slice t s none none none) (b n : Nat) (hs : a.eval s = .pointer (some ⟨b, 0, none⟩))
    (hu : Tryd.prog.underlying t = some (.array (Tryd.prog.arrayLen t) (Tryd.prog.elem t))) (hl : Tryd.prog.arrayLen t = n) (hz : (sizeOf (Tryd.prog.elem t)).run Tryd.prog w = .ok 1 w)
    (hK : wpList Tryd.prog ops Q rest (a.put o.dst (.slice (some ⟨b, 0, none⟩) n n)) w) :
    wpList Tryd.prog ops Q (o :: rest) a w := by
  refine wpList_plain hg fun K hK' => ?_
  have hrun := run_sliceAt_array_all (P := Tryd.prog) w t ⟨b, 0, none⟩ hu
  rw [hz, hl] at hrun
  unfold Oper.wp execOp
  simp only [hop, hs, Option.map, Sem.run_bind, Sem.run_pure, hrun, Result.andThen]
  have hv : slicedAt ⟨b, 0, none⟩ 0 n n 1 = .slice (some ⟨b, 0, none⟩) n n := by
    unfold slicedAt
    rw [Nat.zero_mul, Addr.add_mid]
    simp
  rw [hv]
  exact hK' _ _ hK
end
theorem und_arr8 : Tryd.prog.underlying 108 = some (.array (Tryd.prog.arrayLen 108) (Tryd.prog.elem 108)) := by kernel_rfl
theorem len_arr8 : Tryd.prog.arrayLen 108 = 8 := by kernel_rfl
theorem elem_arr8 : Tryd.prog.elem 108 = 107 := by kernel_rfl
theorem size_arr8 (w : World) : (sizeOf (Tryd.prog.elem 108)).run Tryd.prog w = .ok 1 w := by rw [elem_arr8]; exact run_size_u32 w
theorem size_arr64b (w : World) : (sizeOf (Tryd.prog.elem 96)).run Tryd.prog w = .ok 1 w := by rw [elem_arr64b]; exact run_size_u8 w
end Go.Proofs.YtmbfccclghnaeaaDoor.mc

/- What the reference's Pad answers. No claim of its own. -/

namespace Go.Proofs.YtmbfccclghnaeaaDoor.mc
open Go.RowKit
set_option maxRecDepth 20000

theorem ownsRow_below {B : Nat} {w w' : World} {v : Value} {xs : List Int} (h : Own B w v xs) (hb : Below w.heap.size w w') : Own B w' v xs :=
  World.ownsRow.kept (row := none) h ⟨hb.os, hb.tape, hb.output, hb.size, fun j hj _ => hb.block j hj⟩ (by cases hv : v.ownBlock <;> simp)

theorem zn_mod (n : Nat) : (n + 1 + zn n) % 64 = 56 := by unfold zn; omega
theorem zn_least (n k : Nat) (h : k < zn n) : (n + 1 + k) % 64 ≠ 56 := by unfold zn at h; omega
theorem be8_def (n : Nat) : (le ((n : Int) * 8) (clamp 8 8)).reverse = be8 n := be8_of n

set_option maxRecDepth 100000 in
set_option maxHeartbeats 2000000 in
theorem rpad_any (w : World) (v : Value) (xs : List Int) (h : Byt w v xs) (hn : xs.length ≤ 1000000) :
    Calls Tryd.prog 71 #[v] w fun e w' => ∃ v', e = .returned v' ∧ Byt w' v' (xs ++ padl xs.length) ∧ Below w.heap.size w w' := by
  have HV : Hid (Byt w v xs) := h
  have HA : Hid (AllB (xs ++ padl xs.length)) := allB_append h.all (padl_all _)
  obtain ⟨ao, cap, rfl, hv1, hv2, -, -, -⟩ := h
  obtain ⟨n, hnx⟩ : ∃ n, n = xs.length := ⟨_, rfl⟩
  have HNX : Hid (n = xs.length) := hnx
  obtain ⟨z, hz⟩ : ∃ z, z = zn n := ⟨_, rfl⟩
  have HZ : Hid (z = zn n) := hz
  have hz1 : z < 64 := by rw [hz]; unfold zn; omega
  have n1 : (n : Int) ≤ 1000000 := by omega
  have n2 : n ≤ 1000000 := by omega
  rw [← hnx] at hv1 HV ⊢
  clear hnx hz hn
  go_enter Tryd.func71, Tryd.ntmps71
  go_wp2
  go_loop [3] (fun i => ∃ k : Nat, k ≤ z ∧ i = .int .i64 k) (fun i => z - (intOf i).toNat)
  case atStart => exact ⟨0, Nat.zero_le _, rfl⟩
  case round =>
    obtain ⟨k, hk, rfl⟩ := hrel
    by_cases hlt : k < z
    · have hm : ¬ ((n : Int) + 1 + (k : Int)) % 64 = 56 := by
        have := zn_least n k (by rw [← HZ.out]; exact hlt)
        omega
      have hm2 : ¬ ((n : Int) + 1 + (k : Int)).tmod 64 = 56 := by rw [Int.tmod_eq_emod_of_nonneg (by omega)]; exact hm
      have k1 : (k : Int) < 64 := by omega
      go_wp2
      go_round
      case rel => exact ⟨k + 1, by omega, by go_num⟩
      case measure => simp [intOf]; omega
    · have : k = z := by omega
      subst this
      have hm : ((n : Int) + 1 + (k : Int)) % 64 = 56 := by
        have := zn_mod n
        rw [← HZ.out] at this
        omega
      have hm2 : ((n : Int) + 1 + (k : Int)).tmod 64 = 56 := by rw [Int.tmod_eq_emod_of_nonneg (by omega)]; exact hm
      have k1 : (k : Int) < 64 := by omega
      have HF : Hid (clamp (k : Int) 65536 = k) := by show _ = _; unfold clamp; omega
      have HBE : Hid ((le ((n : Int) * 8) (clamp 8 8)).reverse = be8 n) := be8_of n
      have y3 : IntKind.u64.wrap (n : Int) = n := by rw [IntKind.wrap_u64]; omega
      have y2 : IntKind.u64.wrap ((n : Int) * 8) = (n : Int) * 8 := by rw [IntKind.wrap_u64]; omega
      have B0 : Below w.heap.size w (w.alloc (.cells #[] 5)) := (Below.refl _ _).alloc (Nat.le_refl _) _
      have HO0 : Hid (Own w.heap.size (w.alloc (.cells #[] 5)) (.slice (some ⟨w.heap.size, 0, none⟩) 0 0) []) := Own.empty w (Nat.le_refl _)
      have HV0 : Hid (Byt (w.alloc (.cells #[] 5)) (.slice ao n cap) xs) := HV.out.below B0
      have z0 : w.heap.size ≤ (w.alloc (.cells #[] 5)).heap.size := B0.size
      go_wp2_with (first
        | (refine pushs_law _ rfl (.tmp 14) (.tmp 15) rfl w.heap.size z0 _ _ [] xs rfl rfl HO0.out HV0.out (by simp) (by have := HNX.out; omega) ?_; intro v1 w1 O1 b1; rw [List.nil_append] at O1; have HO1 : Hid (Own w.heap.size w1 v1 xs) := O1; clear O1; have c1 : Below w.heap.size w w1 := B0.trans b1; have s1 := c1.size)
        | (refine push_law w1 rfl (.tmp 16) (.tmp 17) rfl w.heap.size s1 _ xs 128 rfl rfl HO1.out (by have := HNX.out; omega) ?_; intro v2 w2 O2 b2; have HO2 : Hid (Own w.heap.size w2 v2 (xs ++ [128])) := O2; clear O2; have c2 : Below w.heap.size w w2 := c1.trans b2; have s2 := c2.size)
        | (go_at_call 40; refine (rfill_any 0 k _ (by omega)).mono ?_; rintro e w3 ⟨v3, rfl, hv3, hb3⟩; rw [HF.out] at hv3; have HV3 : Hid (Byt w3 v3 (List.replicate k 0)) := hv3; clear hv3; have c3 : Below w.heap.size w w3 := c2.trans (hb3.mono s2); have s3 := c3.size; have HO3 : Hid (Own w.heap.size w3 v2 (xs ++ [128])) := ownsRow_below HO2.out hb3)
        | (refine pushs_law _ rfl (.tmp 19) (.tmp 21) rfl w.heap.size s3 _ _ (xs ++ [128]) (List.replicate k 0) rfl rfl HO3.out HV3.out (by have := HNX.out; simp; omega) (by simp; omega) ?_; intro v4 w4 O4 b4; have HO4 : Hid (Own w.heap.size w4 v4 (xs ++ [128] ++ List.replicate k 0)) := O4; clear O4; have c4 : Below w.heap.size w w4 := c3.trans b4; have s4 := c4.size)
        | fail)
      refine (rbig_any ((n : Int) * 8) 8 _ (by omega)).mono ?_
      rintro e w5 ⟨v5, rfl, hv5, hb5⟩
      rw [HBE.out] at hv5
      have HV5 : Hid (Byt w5 v5 (be8 n)) := hv5
      clear hv5
      have c5 : Below w.heap.size w w5 := c4.trans (hb5.mono s4)
      have s5 := c5.size
      have HO5 : Hid (Own w.heap.size w5 v4 (xs ++ [128] ++ List.replicate k 0)) := ownsRow_below HO4.out hb5
      go_wp2_with (refine pushs_law _ rfl (.tmp 23) (.tmp 28) rfl w.heap.size s5 _ _ (xs ++ [128] ++ List.replicate k 0) (be8 n) rfl rfl HO5.out HV5.out (by have := HNX.out; simp; omega) (by rw [be8_len]; omega) ?_; intro v6 w6 O6 b6; have HO6 : Hid (Own w.heap.size w6 v6 (xs ++ [128] ++ List.replicate k 0 ++ be8 n)) := O6; clear O6; have c6 : Below w.heap.size w w6 := c5.trans b6)
      have hl : xs ++ [128] ++ List.replicate k 0 ++ be8 n = xs ++ padl n := by
        unfold padl
        rw [← HZ.out]; simp
      have HB : Hid (Byt w6 v6 (xs ++ padl n)) := by
        have := HO6.out.byt (by rw [hl, HNX.out]; exact HA.out)
        rwa [hl] at this
      clear hl
      go_ret
      exact ⟨_, rfl, HB.out, c6⟩
end Go.Proofs.YtmbfccclghnaeaaDoor.mc

/- What the reference's words answers: a block's sixty-four words. No claim of its own. -/
namespace Go.Proofs.YtmbfccclghnaeaaDoor.mc
open Go.RowKit
set_option maxRecDepth 20000

theorem ownsRow_belowW {B : Nat} {w w' : World} {v : Value} {xs : List Int} (h : OwnW B w v xs) (hb : Below w.heap.size w w') : OwnW B w' v xs :=
  World.ownsRow.kept (row := none) h ⟨hb.os, hb.tape, hb.output, hb.size, fun j hj _ => hb.block j hj⟩ (by cases hv : v.ownBlock <;> simp)
section
variable {ops : Array Oper} {o : Oper} {a : Act} {Q : Exit → Act → World → Prop} {K : Act → World → Prop} {E : Prop}
theorem step_build1W (w : World) (hg : o.guard = none) (d : Option Tmp) (hd : o.dst = d) (x : Operand) (hop : o.op = Op.buildSlice 104 1 #[(0, x)]) (c : Int) (hx : a.eval x = .int .u32 c)
    (hK : K (a.put d (.slice (some ⟨w.heap.size, 0, none⟩) 1 1)) (w.alloc (.cells #[.int .u32 c] 107))) : if Region.wanted o (yielded ops a.tmps) = true then Oper.wp Tryd.prog o a w K Q else E := by
  have hw : Region.wanted o (yielded ops a.tmps) = true := by simp [Region.wanted, hg]
  rw [if_pos hw]
  subst hd
  have hrun : (Instr.buildSlice 104 1 #[(0, .int .u32 c)]).run Tryd.prog w = .ok (.slice (some ⟨w.heap.size, 0, none⟩) 1 1) (w.alloc (.cells #[.int .u32 c] 107)) := by kernel_rfl
  unfold Oper.wp execOp
  simp only [hop, List.map_toArray, List.map_cons, List.map_nil, hx, Sem.run_bind, Sem.run_pure, Result.andThen_ok, hrun]
  exact hK
theorem step_assign (w : World) (hg : o.guard = none) (d : Option Tmp) (hd : o.dst = d) (x : Operand) (hop : o.op = Op.assign x) (v : Value) (hx : a.eval x = v)
    (hK : K (a.put d v) w) : if Region.wanted o (yielded ops a.tmps) = true then Oper.wp Tryd.prog o a w K Q else E := by
  have hw : Region.wanted o (yielded ops a.tmps) = true := by simp [Region.wanted, hg]
  rw [if_pos hw]
  subst hd
  unfold Oper.wp execOp
  simp only [hop, hx, Sem.run_pure]
  exact hK
end
theorem sched_lo (bs : List Int) (k : Nat) (h : k < 16) : sched bs (k + 1) = sched bs k ++ [w0 bs k] := by
  show sched bs k ++ [if k < 16 then w0 bs k else wnext (sched bs k) k] = _
  rw [if_pos h]
theorem sched_hi (bs : List Int) (k : Nat) (h : ¬ k < 16) : sched bs (k + 1) = sched bs k ++ [wnext (sched bs k) k] := by
  show sched bs k ++ [if k < 16 then w0 bs k else wnext (sched bs k) k] = _
  rw [if_neg h]

set_option linter.unusedSimpArgs false in
set_option maxRecDepth 100000 in
set_option maxHeartbeats 4000000 in
theorem rwords_any (w : World) (v : Value) (bs : List Int) (hb : Byt w v bs) (hl : bs.length = 64) :
    Calls Tryd.prog 80 #[v] w fun e w' => ∃ r, e = .returned r ∧ Wrd w' r (sched bs 64) ∧ Below w.heap.size w w' := by
  have HV : Hid (Byt w v bs) := hb
  have HL : Hid (bs.length = 64) := hl
  clear hb hl
  go_enter Tryd.func80, Tryd.ntmps80
  go_wp2
  go_loopw [3, 4] (fun r i wr => ∃ k : Nat, k ≤ 64 ∧ i = .int .i64 k ∧ OwnW w.heap.size wr r (sched bs k) ∧ Below w.heap.size w wr) (fun _ i _ => 64 - (intOf i).toNat)
  case atStart => exact ⟨0, Nat.zero_le _, rfl, OwnW.empty w (Nat.le_refl _), (Below.refl _ _).alloc (Nat.le_refl _) _⟩
  case round =>
    obtain ⟨k, hk, rfl, hown, hbel⟩ := hrel
    have hsz := hbel.size
    have HSL : Hid ((sched bs k).length = k) := sched_len bs k
    have q1 : IntKind.i64.wrap (k : Int) = k := by rw [IntKind.wrap_i64]; omega
    have k0 : (0 : Int) ≤ (k : Int) := by omega
    have k64 : (k : Int) ≤ 64 := by omega
    by_cases hlt : k < 64
    · by_cases h16 : k < 16
      · have SN : Hid (sched bs (k + 1) = sched bs k ++ [w0 bs k]) := sched_lo bs k h16
        have HVr : Hid (Byt wr v bs) := HV.out.below hbel
        have E0 : Hid (num (last8 ((bs.take (4 * k + 4)).drop (4 * k))) % 4294967296 = w0 bs k) := rfl
        have HO : Hid (OwnW w.heap.size wr u3 (sched bs k)) := hown
        clear hown
        obtain ⟨scx, hscx⟩ : ∃ s, s = sched bs k := ⟨_, rfl⟩
        rw [← hscx] at HO HSL SN
        clear hscx
        go_wp2_with (first
          | (refine cut_part _ rfl (.tmp 15) (.tmp 17) (.tmp 20) rfl _ bs _ _ (4 * k) (4 * k + 4) rfl rfl rfl (by omega) (by omega) (by omega) (by rw [HL.out]; omega) HVr.out ?_; intro v' hv'; have HV' : Hid (Byt wr v' ((bs.take (4 * k + 4)).drop (4 * k))) := hv'; clear hv')
          | (go_at_call 44; refine (rnum_any _ _ _ HV'.out (by have := HL.out; simp; omega)).mono ?_; rintro e w1 ⟨rfl, hb1⟩; have e1 := E0.out; generalize num (last8 ((bs.take (4 * k + 4)).drop (4 * k))) = nm at *; have HO1 := ownsRow_belowW HO.out hb1; have HO1' : Hid (OwnW w.heap.size w1 u3 scx) := HO1; clear HO1; have s1 : w.heap.size ≤ w1.heap.size := Nat.le_trans hsz hb1.size)
          | (refine push_lawW _ rfl (.tmp 14) (.tmp 24) rfl w.heap.size s1 _ scx _ rfl rfl HO1'.out (by rw [HSL.out]; omega) ?_; intro v2 w2 O2 b2; have HO2 : Hid (OwnW w.heap.size w2 v2 (scx ++ [_])) := O2; clear O2))

        go_roundw
        case rel => exact ⟨k + 1, by omega, by go_num, by rw [SN.out]; exact HO2.out, hbel.trans ((hb1.mono hsz).trans b2)⟩
        case measure => simp [intOf]; omega
      · have SN : Hid (sched bs (k + 1) = sched bs k ++ [wnext (sched bs k) k]) := sched_hi bs k h16
        have HW := hown.wrd (sched_all bs k)
        obtain ⟨ao, cap, rfl, hc1, hc2, hwa, -, h5⟩ := HW
        obtain ⟨b, off, rfl, hcell⟩ := h5 (by rw [HSL.out]; omega)
        have HO : Hid (OwnW w.heap.size wr (.slice (some ⟨b, off, none⟩) (sched bs k).length cap) (sched bs k)) := hown
        rw [HSL.out] at hc1 hcell HO ⊢
        have d2 := hcell (k - 2) (by omega)
        have d7 := hcell (k - 7) (by omega)
        have d15 := hcell (k - 15) (by omega)
        have d16 := hcell (k - 16) (by omega)
        have W2 : Hid (W32 (gb (sched bs k) (k - 2))) := hwa _
        have W15 : Hid (W32 (gb (sched bs k) (k - 15))) := hwa _
        have EN : Hid (wnext (sched bs k) k = (((sg1 (gb (sched bs k) (k - 2)) + gb (sched bs k) (k - 7)) % 4294967296 + sg0 (gb (sched bs k) (k - 15))) % 4294967296 + gb (sched bs k) (k - 16)) % 4294967296) := rfl
        clear hown hcell hwa
        generalize wnext (sched bs k) k = nx at *
        generalize gb (sched bs k) (k - 2) = x2 at *
        generalize gb (sched bs k) (k - 7) = x7 at *
        generalize gb (sched bs k) (k - 15) = x15 at *
        generalize gb (sched bs k) (k - 16) = x16 at *
        obtain ⟨scx, hscx⟩ : ∃ s, s = sched bs k := ⟨_, rfl⟩
        rw [← hscx] at HO HSL SN
        clear hscx
        obtain ⟨j2, e2⟩ : ∃ j, j = k - 2 := ⟨_, rfl⟩
        rw [← e2] at d2
        have s2 : (k : Int) - 2 = (j2 : Int) := by omega
        have t2 : (j2 : Int) < (k : Int) := by omega
        have p2 : IntKind.i64.wrap (j2 : Int) = j2 := by rw [IntKind.wrap_i64]; omega
        have z2 : (0 : Int) ≤ j2 := by omega
        clear e2
        obtain ⟨j7, e7⟩ : ∃ j, j = k - 7 := ⟨_, rfl⟩
        rw [← e7] at d7
        have s7 : (k : Int) - 7 = (j7 : Int) := by omega
        have t7 : (j7 : Int) < (k : Int) := by omega
        have p7 : IntKind.i64.wrap (j7 : Int) = j7 := by rw [IntKind.wrap_i64]; omega
        have z7 : (0 : Int) ≤ j7 := by omega
        clear e7
        obtain ⟨j15, e15⟩ : ∃ j, j = k - 15 := ⟨_, rfl⟩
        rw [← e15] at d15
        have s15 : (k : Int) - 15 = (j15 : Int) := by omega
        have t15 : (j15 : Int) < (k : Int) := by omega
        have p15 : IntKind.i64.wrap (j15 : Int) = j15 := by rw [IntKind.wrap_i64]; omega
        have z15 : (0 : Int) ≤ j15 := by omega
        clear e15
        obtain ⟨j16, e16⟩ : ∃ j, j = k - 16 := ⟨_, rfl⟩
        rw [← e16] at d16
        have s16 : (k : Int) - 16 = (j16 : Int) := by omega
        have t16 : (j16 : Int) < (k : Int) := by omega
        have p16 : IntKind.i64.wrap (j16 : Int) = j16 := by rw [IntKind.wrap_i64]; omega
        have z16 : (0 : Int) ≤ j16 := by omega
        clear e16
        have R17 : Hid (∀ w0, Calls Tryd.prog 82 #[.int .u32 x2, .int .i64 17] w0 fun e w' => e = .returned (.int .u32 (rr x2 17)) ∧ ∃ d, w' = w0.drewN d) := fun w0 => rotr_any x2 17 w0 W2.out (by omega)
        have R19 : Hid (∀ w0, Calls Tryd.prog 82 #[.int .u32 x2, .int .i64 19] w0 fun e w' => e = .returned (.int .u32 (rr x2 19)) ∧ ∃ d, w' = w0.drewN d) := fun w0 => rotr_any x2 19 w0 W2.out (by omega)
        have R7 : Hid (∀ w0, Calls Tryd.prog 82 #[.int .u32 x15, .int .i64 7] w0 fun e w' => e = .returned (.int .u32 (rr x15 7)) ∧ ∃ d, w' = w0.drewN d) := fun w0 => rotr_any x15 7 w0 W15.out (by omega)
        have R18 : Hid (∀ w0, Calls Tryd.prog 82 #[.int .u32 x15, .int .i64 18] w0 fun e w' => e = .returned (.int .u32 (rr x15 18)) ∧ ∃ d, w' = w0.drewN d) := fun w0 => rotr_any x15 18 w0 W15.out (by omega)
        have P10 : Hid (∀ w0, Calls Tryd.prog 90 #[.int .i64 10] w0 fun e w' => e = .returned (.int .u32 1024) ∧ w' = w0) := fun w0 => power_any 10 w0 (by omega)
        have P3 : Hid (∀ w0, Calls Tryd.prog 90 #[.int .i64 3] w0 fun e w' => e = .returned (.int .u32 8) ∧ w' = w0) := fun w0 => power_any 3 w0 (by omega)
        have EG1 : Hid (sg1 x2 = bits .xor .u32 (bits .xor .u32 (rr x2 17) (rr x2 19)) (x2 / 1024)) := rfl
        have EG0 : Hid (sg0 x15 = bits .xor .u32 (bits .xor .u32 (rr x15 7) (rr x15 18)) (x15 / 8)) := rfl
        generalize sg1 x2 = S1 at *
        generalize sg0 x15 = S0 at *
        generalize rr x2 17 = y17 at *
        generalize rr x2 19 = y19 at *
        generalize rr x15 7 = y7 at *
        generalize rr x15 18 = y18 at *
        obtain ⟨b1, b2⟩ : 0 ≤ x2 ∧ x2 ≤ 4294967295 := W2.out
        obtain ⟨b3, b4⟩ : 0 ≤ x15 ∧ x15 ≤ 4294967295 := W15.out
        go_wp2
        refine wp_region_any (by kernel_rfl) ?_
        change wpAny _ _ _ _ _ _ _ (World.drew _)
        refine take_law0 0 (some 36) (.slice (some ⟨b, off, none⟩) k cap) rfl rfl (by kernel_rfl) (by kernel_rfl) (by kernel_rfl) (fun _ _ _ h => h) (Or.inl ⟨by rfl, fun w => by rfl⟩) ?_
        simp only [Act.put, List.setIfInBounds_toArray, List.set_cons_zero, List.set_cons_succ]
        refine wpAny_quiet_then (C := fun w' => ∃ n, w' = wr.drewN n) 1 32 3 _ (by kernel_rfl) rfl (by kernel_rfl) (by kernel_rfl) ⟨1, rfl⟩ ?_
        simp only [List.take_succ_cons, List.take_zero, List.drop_succ_cons, List.drop_zero]
        repeat (quiet_step (first
          | with_reducible exact Calls.quiet_of (R17.out _)
          | with_reducible exact Calls.quiet_of (R19.out _)
          | with_reducible exact Calls.quiet_of_same (P10.out _)
          | with_reducible exact Calls.quiet_of (R7.out _)
          | with_reducible exact Calls.quiet_of (R18.out _)
          | with_reducible exact Calls.quiet_of_same (P3.out _)))
        refine wpQuiet_nil ?_
        rintro f _ ⟨nq, rfl⟩
        have EV : nx = IntKind.u32.wrap (IntKind.u32.wrap (IntKind.u32.wrap (bits .xor .u32 (bits .xor .u32 y17 y19) (IntKind.u32.wrap (x2.tdiv 1024)) + x7) + bits .xor .u32 (bits .xor .u32 y7 y18) (IntKind.u32.wrap (x15.tdiv 8))) + x16) := by
          have t1 : IntKind.u32.wrap (x2.tdiv 1024) = x2 / 1024 := by rw [Int.tdiv_eq_ediv_of_nonneg b1, IntKind.wrap_u32]; omega
          have t2 : IntKind.u32.wrap (x15.tdiv 8) = x15 / 8 := by rw [Int.tdiv_eq_ediv_of_nonneg b3, IntKind.wrap_u32]; omega
          rw [EN.out, EG1.out, EG0.out, t1, t2]
          simp only [IntKind.wrap_u32]
        have HEV : Hid (nx = IntKind.u32.wrap (IntKind.u32.wrap (IntKind.u32.wrap (bits .xor .u32 (bits .xor .u32 y17 y19) (IntKind.u32.wrap (x2.tdiv 1024)) + x7) + bits .xor .u32 (bits .xor .u32 y7 y18) (IntKind.u32.wrap (x15.tdiv 8))) + x16)) := EV
        clear EV
        refine wpAny_ready (rs := [32]) (by kernel_rfl) (by simp) ?_
        refine AllReady.cons rfl (fun K hK => ?_) AllReady.nil
        refine step_build1W _ rfl (some 68) rfl (.tmp 67) rfl nx (by rw [HEV.out]; rfl) (hK _ _ ?_)
        simp only [Act.put, List.setIfInBounds_toArray, List.set_cons_zero, List.set_cons_succ]
        refine wpAny_ready (rs := [33]) (by kernel_rfl) (by simp) ?_
        refine AllReady.cons rfl (fun K hK => ?_) AllReady.nil
        refine step_push1W (wr.drewN nq) rfl (.tmp 36) (.tmp 68) rfl w.heap.size (by simpa using hsz) _ scx nx rfl rfl (HO.out.drew nq) (by rw [HSL.out]; omega) ?_
        intro v2 w2 O2 b2
        refine hK _ _ ?_
        have HO2 : Hid (OwnW w.heap.size w2 v2 (scx ++ [nx])) := O2
        clear O2
        simp only [Act.put, List.setIfInBounds_toArray, List.set_cons_zero, List.set_cons_succ]
        refine wpAny_ready (rs := [34]) (by kernel_rfl) (by simp) ?_
        refine AllReady.cons rfl (fun K hK => ?_) AllReady.nil
        refine step_assign _ rfl (some 3) rfl (.tmp 69) rfl v2 rfl (hK _ _ ?_)
        simp only [Act.put, List.setIfInBounds_toArray, List.set_cons_zero, List.set_cons_succ]
        refine wpAny_done (by kernel_rfl) ?_ _
        go_wp2
        go_roundw
        case rel => exact ⟨k + 1, by omega, by go_num, by rw [SN.out]; exact HO2.out, (below_drewN hbel nq).trans b2⟩
        case measure => simp [intOf]; omega
    · have : k = 64 := by omega
      subst this
      go_wp2
      go_ret
      exact ⟨_, rfl, hown.wrd (sched_all bs 64), hbel⟩
end Go.Proofs.YtmbfccclghnaeaaDoor.mc

/- What the reference's Compress answers. No claim of its own. -/
namespace Go.Proofs.YtmbfccclghnaeaaDoor.mc
open Go.RowKit
set_option maxRecDepth 20000

theorem pushs_lawW {ops : Array Oper} {rest : List Oper} {o : Oper} {a : Act} {Q : Exit → Act → World → Prop} (w : World) (hg : o.guard = none) (s x : Operand) (hop : o.op = .call { callee := .builtin .append, args := #[s, x], argTypes := #[104, 104] })
    (B : Nat) (hB : B ≤ w.heap.size) (v vy : Value) (xs ys : List Int) (hs : a.eval s = v) (hx : a.eval x = vy) (hown : OwnW B w v xs) (hy : Wrd w vy ys) (hn : xs.length ≤ 1099511627776) (hm : ys.length ≤ 1099511627776)
    (hK : ∀ v' w', OwnW B w' v' (xs ++ ys) → Below B w w' → wpList Tryd.prog ops Q rest (a.put o.dst v') w') :
    wpList Tryd.prog ops Q (o :: rest) a w := by
  obtain ⟨i0, hi, hz0, hz1, hz2⟩ := info_parts info_u32
  obtain ⟨ao, cap, rfl, h1, h2, h3, h4, h5⟩ := hy
  cases ao with
  | none =>
    have hc := h4 rfl
    subst hc
    have : ys = [] := List.eq_nil_of_length_eq_zero (by omega)
    subst this
    refine wpList_append_own_none hg s x 104 hop B 107 i0 1 Tryd.underlying104 hi v xs.length _ hs hown hx (hK v w ?_ (Below.refl _ _))
    rwa [List.append_nil]
  | some ad =>
    refine wpList_append_own _ hg s x 104 hop B 107 i0 (.int .u32 0) 1 4 Tryd.underlying104 hi hz0 hz1 hz2 rfl (by decide) v xs.length _ hs hown ad ys.length cap (ys.map (Value.int .u32)) hx (by simp) ?_ ?_ (by simp only [maxLen]; omega) (by omega) hB fun v' w' h1 h2 _ => ?_
    · intro j u hj
      have hjl : j < ys.length := by have := (List.getElem?_eq_some_iff.1 hj).1; simpa using this
      obtain ⟨b, off, e, hc⟩ := h5 (by omega)
      cases e
      rw [Addr.add_mid, hc j hjl, ← hj]
      simp [gb, List.getD, hjl]
    · intro u hu
      simp only [List.mem_map] at hu
      obtain ⟨y, _, rfl⟩ := hu
      rfl
    · refine hK v' w' ?_ ?_
      · show w'.ownsRow B 107 1 v' (xs ++ ys).length ((xs ++ ys).map (Value.int .u32))
        simpa using h1
      · exact (Below.refl B w).grown h2 hB fun k hk => (World.ownsRow.lt hown k hk).1

theorem step_build8W {ops : Array Oper} {o : Oper} {a : Act} {Q : Exit → Act → World → Prop} {K : Act → World → Prop} {E : Prop} (w : World) (hg : o.guard = none) (d : Option Tmp) (hd : o.dst = d) (p0 p1 p2 p3 p4 p5 p6 p7 : Operand)
    (hop : o.op = Op.buildSlice 104 8 #[(0, p0), (1, p1), (2, p2), (3, p3), (4, p4), (5, p5), (6, p6), (7, p7)]) (c0 c1 c2 c3 c4 c5 c6 c7 : Int) (hx : a.eval p0 = .int .u32 c0 ∧ a.eval p1 = .int .u32 c1 ∧ a.eval p2 = .int .u32 c2 ∧ a.eval p3 = .int .u32 c3 ∧ a.eval p4 = .int .u32 c4 ∧ a.eval p5 = .int .u32 c5 ∧ a.eval p6 = .int .u32 c6 ∧ a.eval p7 = .int .u32 c7)
    (hK : K (a.put d (.slice (some ⟨w.heap.size, 0, none⟩) 8 8)) (w.alloc (.cells (ints .u32 [c0, c1, c2, c3, c4, c5, c6, c7]) 107))) : if Region.wanted o (yielded ops a.tmps) = true then Oper.wp Tryd.prog o a w K Q else E := by
  have hw : Region.wanted o (yielded ops a.tmps) = true := by simp [Region.wanted, hg]
  rw [if_pos hw]
  subst hd
  obtain ⟨x0, x1, x2, x3, x4, x5, x6, x7⟩ := hx
  have hrun : (Instr.buildSlice 104 8 #[(0, .int .u32 c0), (1, .int .u32 c1), (2, .int .u32 c2), (3, .int .u32 c3), (4, .int .u32 c4), (5, .int .u32 c5), (6, .int .u32 c6), (7, .int .u32 c7)]).run Tryd.prog w = .ok (.slice (some ⟨w.heap.size, 0, none⟩) 8 8) (w.alloc (.cells (ints .u32 [c0, c1, c2, c3, c4, c5, c6, c7]) 107)) := by kernel_rfl
  unfold Oper.wp execOp
  simp only [hop, List.map_toArray, List.map_cons, List.map_nil, x0, x1, x2, x3, x4, x5, x6, x7, Sem.run_bind, Sem.run_pure, Result.andThen_ok, hrun]
  exact hK

theorem Wrd.opn {w : World} {v : Value} {xs : List Int} (h : Wrd w v xs) (n : Nat) (hn : xs.length = n) (hp : 0 < n) : ∃ b off cap, v = .slice (some ⟨b, off, none⟩) n cap ∧ n ≤ cap ∧ cap ≤ 9223372036854775807 ∧ b < w.heap.size ∧ ∀ t, t < n → w.cell? ⟨b, off + t, none⟩ = some (.int .u32 (gb xs t)) := by
  subst hn
  obtain ⟨ao, cap, rfl, h1, h2, -, -, h5⟩ := h
  obtain ⟨b, off, rfl, hc⟩ := h5 hp
  exact ⟨b, off, cap, rfl, h1, h2, World.block_lt_of_cell? w _ (hc 0 hp), hc⟩
theorem rnds_len (st ws : List Int) (h : st.length = 8) (t : Nat) : (rnds st ws t).length = 8 := by
  cases t with
  | zero => exact h
  | succ t => rfl
theorem addl_take (st r : List Int) (k : Nat) (h : k < 8) : (addl st r).take (k + 1) = (addl st r).take k ++ [(gb r k + gb st k) % 4294967296] := by
  have hk : k = 0 ∨ k = 1 ∨ k = 2 ∨ k = 3 ∨ k = 4 ∨ k = 5 ∨ k = 6 ∨ k = 7 := by omega
  rcases hk with rfl | rfl | rfl | rfl | rfl | rfl | rfl | rfl <;> rw [Int.add_comm (gb r _)] <;> rfl

set_option linter.unusedSimpArgs false in
set_option maxRecDepth 100000 in
set_option maxHeartbeats 8000000 in
theorem rcompress_any (w : World) (s v : Value) (st bs : List Int) (hs : Wrd w s st) (hb : Byt w v bs) (h8 : st.length = 8) (h64 : bs.length = 64) :
    Calls Tryd.prog 73 #[s, v] w fun e w' => ∃ r, e = .returned r ∧ Wrd w' r (comp st bs) ∧ Below w.heap.size w w' := by
  have HS : Hid (Wrd w s st) := hs
  have HB : Hid (Byt w v bs) := hb
  have AS : Hid (AllW st) := hs.all
  have H8 : Hid (st.length = 8) := h8
  have H64 : Hid (bs.length = 64) := h64
  have HC : Hid (comp st bs = addl st (rnds st (sched bs 64) 64)) := rfl
  have HWS : Hid ((sched bs 64).length = 64) := sched_len bs 64
  have HRW : Hid (∀ w0, Byt w0 v bs → Calls Tryd.prog 80 #[v] w0 fun e w' => ∃ r, e = .returned r ∧ Wrd w' r (sched bs 64) ∧ Below w0.heap.size w0 w') := fun w0 h => rwords_any w0 v bs h h64
  have HRA : Hid (∀ t, AllW (rnds st (sched bs 64) t)) := fun t => rnds_all st _ AS.out t
  have HRN : Hid (∀ t, rnds st (sched bs 64) (t + 1) = rnd (rnds st (sched bs 64) t) (gb kc t) (gb (sched bs 64) t)) := fun t => rfl
  have HRL : Hid (∀ t, (rnds st (sched bs 64) t).length = 8) := fun t => rnds_len st _ h8 t
  have HR0 : Hid (rnds st (sched bs 64) 0 = st) := rfl
  generalize comp st bs = cm at *
  generalize rnds st (sched bs 64) = RS at *
  generalize sched bs 64 = ws at *
  clear hs hb h8 h64
  go_enter Tryd.func73, Tryd.ntmps73
  go_wp2_with (first
    | (go_at_call 80; refine (HRW.out _ HB.out).mono ?_; rintro e w1 ⟨v1, rfl, hv1, B1⟩; have HV1 : Hid (Wrd w1 v1 ws) := hv1; clear hv1; have s1 := B1.size)
    | (go_at_call 81; refine (rconstants_any _).mono ?_; rintro e w2 ⟨v2, rfl, hv2, B2⟩; have HV2 : Hid (Wrd w2 v2 kc) := hv2; clear hv2; have s2 := B2.size; have HV12 : Hid (Wrd w2 v1 ws) := HV1.out.below B2; have C2 : Below w.heap.size w w2 := B1.trans (B2.mono s1); have HS2 : Hid (Wrd (w2.alloc (.cells #[] 107)) s st) := (HS.out.below C2).below (((Below.refl _ _).alloc (Nat.le_refl _) _)); have HOE : Hid (OwnW w2.heap.size (w2.alloc (.cells #[] 107)) (.slice (some ⟨w2.heap.size, 0, none⟩) 0 0) []) := OwnW.empty w2 (Nat.le_refl _); have BE : Below w2.heap.size w2 (w2.alloc (.cells #[] 107)) := (Below.refl _ _).alloc (Nat.le_refl _) _)
    | (refine pushs_lawW _ rfl (.tmp 16) (.tmp 17) rfl w2.heap.size BE.size _ _ [] st rfl rfl HOE.out HS2.out (by simp) (by rw [H8.out]; omega) ?_; intro v3 w3 O3 b3; rw [List.nil_append] at O3; have HV3 : Hid (Wrd w3 v3 st) := O3.wrd AS.out; clear O3; have B3 : Below w2.heap.size w2 w3 := BE.trans b3; have s3 := B3.size))
  obtain ⟨bk, ok, ck, rfl, k1, k2, k3, hck⟩ := HV2.out.opn 64 kc_len (by omega)
  obtain ⟨bw, ow, cw, rfl, m1, m2, m3, hcw⟩ := HV12.out.opn 64 HWS.out (by omega)
  have HCK : Hid (∀ t, t < 64 → w2.cell? ⟨bk, ok + t, none⟩ = some (.int .u32 (gb kc t))) := hck
  have HCW : Hid (∀ t, t < 64 → w2.cell? ⟨bw, ow + t, none⟩ = some (.int .u32 (gb ws t))) := hcw
  have HL2 : Hid (bk < w2.heap.size ∧ bw < w2.heap.size) := ⟨k3, m3⟩
  clear hck hcw k3 m3 HV1
  go_loopw [7, 8] (fun r i wr => ∃ k : Nat, k ≤ 64 ∧ i = .int .i64 k ∧ Wrd wr r (RS k) ∧ Below w2.heap.size w2 wr) (fun _ i _ => 64 - (intOf i).toNat)
  case atStart => exact ⟨0, Nat.zero_le _, rfl, by rw [HR0.out]; exact HV3.out, B3⟩
  case round =>
    obtain ⟨k, hk, rfl, hv, hbel⟩ := hrel
    have q1 : IntKind.i64.wrap (k : Int) = k := by rw [IntKind.wrap_i64]; omega
    have k0 : (0 : Int) ≤ (k : Int) := by omega
    by_cases hlt : k < 64
    · have k64 : (k : Int) < 64 := by omega
      obtain ⟨bv, ov, cv, rfl, v1', v2', v3', hcell⟩ := hv.opn 8 (HRL.out k) (by omega)
      have xk : wr.cell? ⟨bk, ok + k, none⟩ = some (.int .u32 (gb kc k)) := (hbel.cell HL2.out.1).trans (HCK.out k hlt)
      have xw : wr.cell? ⟨bw, ow + k, none⟩ = some (.int .u32 (gb ws k)) := (hbel.cell HL2.out.2).trans (HCW.out k hlt)
      have c0 := hcell 0 (by omega)
      have c1 := hcell 1 (by omega)
      have c2 := hcell 2 (by omega)
      have c3 := hcell 3 (by omega)
      have c4 := hcell 4 (by omega)
      have c5 := hcell 5 (by omega)
      have c6 := hcell 6 (by omega)
      have c7 := hcell 7 (by omega)
      have c0' := c0
      rw [Nat.add_zero] at c0'
      have E := HRN.out k
      have W0 : Hid (W32 (gb (RS k) 0)) := HRA.out k 0
      have W4 : Hid (W32 (gb (RS k) 4)) := HRA.out k 4
      obtain ⟨kk, hkk⟩ : ∃ x, x = gb kc k := ⟨_, rfl⟩
      obtain ⟨ww, hww⟩ : ∃ x, x = gb ws k := ⟨_, rfl⟩
      obtain ⟨r, hr⟩ : ∃ r, r = RS k := ⟨_, rfl⟩
      rw [← hkk] at xk E
      rw [← hww] at xw E
      rw [← hr] at E W0 W4 c0 c1 c2 c3 c4 c5 c6 c7 c0'
      have HRW' : Hid (AllW (rnd r kk ww)) := by rw [← E]; exact HRA.out _
      have HE : Hid (RS (k + 1) = [(tt1 r kk ww + tt2 r) % 4294967296, gb r 0, gb r 1, gb r 2, (gb r 3 + tt1 r kk ww) % 4294967296, gb r 4, gb r 5, gb r 6]) := E
      have HT1 : Hid (tt1 r kk ww = ((((gb r 7 + bits .xor .u32 (bits .xor .u32 (rr (gb r 4) 6) (rr (gb r 4) 11)) (rr (gb r 4) 25)) % 4294967296 + bits .xor .u32 (bits .and .u32 (gb r 4) (gb r 5)) (bits .and .u32 (4294967295 - gb r 4) (gb r 6))) % 4294967296 + kk) % 4294967296 + ww) % 4294967296) := rfl
      have HT2 : Hid (tt2 r = (bits .xor .u32 (bits .xor .u32 (rr (gb r 0) 2) (rr (gb r 0) 13)) (rr (gb r 0) 22) + bits .xor .u32 (bits .xor .u32 (bits .and .u32 (gb r 0) (gb r 1)) (bits .and .u32 (gb r 0) (gb r 2))) (bits .and .u32 (gb r 1) (gb r 2))) % 4294967296) := rfl
      clear hr hkk hww E hcell hv
      generalize tt1 r kk ww = T1 at *
      generalize tt2 r = T2 at *
      generalize gb r 0 = r0 at *
      generalize gb r 1 = r1 at *
      generalize gb r 2 = r2 at *
      generalize gb r 3 = r3 at *
      generalize gb r 4 = r4 at *
      generalize gb r 5 = r5 at *
      generalize gb r 6 = r6 at *
      generalize gb r 7 = r7 at *
      have R6 : Hid (∀ w0, Calls Tryd.prog 82 #[.int .u32 r4, .int .i64 6] w0 fun e w' => e = .returned (.int .u32 (rr r4 6)) ∧ ∃ d, w' = w0.drewN d) := fun w0 => rotr_any r4 6 w0 W4.out (by omega)
      have R11 : Hid (∀ w0, Calls Tryd.prog 82 #[.int .u32 r4, .int .i64 11] w0 fun e w' => e = .returned (.int .u32 (rr r4 11)) ∧ ∃ d, w' = w0.drewN d) := fun w0 => rotr_any r4 11 w0 W4.out (by omega)
      have R25 : Hid (∀ w0, Calls Tryd.prog 82 #[.int .u32 r4, .int .i64 25] w0 fun e w' => e = .returned (.int .u32 (rr r4 25)) ∧ ∃ d, w' = w0.drewN d) := fun w0 => rotr_any r4 25 w0 W4.out (by omega)
      have R2 : Hid (∀ w0, Calls Tryd.prog 82 #[.int .u32 r0, .int .i64 2] w0 fun e w' => e = .returned (.int .u32 (rr r0 2)) ∧ ∃ d, w' = w0.drewN d) := fun w0 => rotr_any r0 2 w0 W0.out (by omega)
      have R13 : Hid (∀ w0, Calls Tryd.prog 82 #[.int .u32 r0, .int .i64 13] w0 fun e w' => e = .returned (.int .u32 (rr r0 13)) ∧ ∃ d, w' = w0.drewN d) := fun w0 => rotr_any r0 13 w0 W0.out (by omega)
      have R22 : Hid (∀ w0, Calls Tryd.prog 82 #[.int .u32 r0, .int .i64 22] w0 fun e w' => e = .returned (.int .u32 (rr r0 22)) ∧ ∃ d, w' = w0.drewN d) := fun w0 => rotr_any r0 22 w0 W0.out (by omega)
      generalize rr r4 6 = y6 at *
      generalize rr r4 11 = y11 at *
      generalize rr r4 25 = y25 at *
      generalize rr r0 2 = y2 at *
      generalize rr r0 13 = y13 at *
      generalize rr r0 22 = y22 at *
      obtain ⟨b1, b2⟩ : 0 ≤ r4 ∧ r4 ≤ 4294967295 := W4.out
      have nt : IntKind.u32.wrap (4294967295 - r4) = 4294967295 - r4 := by rw [IntKind.wrap_u32]; omega
      go_wp2
      go_quiet (first
        | with_reducible exact Calls.quiet_of (R6.out _)
        | with_reducible exact Calls.quiet_of (R11.out _)
        | with_reducible exact Calls.quiet_of (R25.out _))
      have HX1 : (((r7 + bits BinOp.xor IntKind.u32 (bits BinOp.xor IntKind.u32 y6 y11) y25 + bits BinOp.xor IntKind.u32 (bits BinOp.and IntKind.u32 r4 r5) (bits BinOp.and IntKind.u32 (4294967295 - r4) r6) + kk) % 4294967296 + ww) % 4294967296) = T1 := by
        rw [HT1.out]; omega
      rw [HX1]
      clear HX1
      have BB1 : Below w2.heap.size w2 (wr.drewN nq) := below_drewN hbel nq
      have c0n : (wr.drewN nq).cell? _ = _ := c0
      have c0'n : (wr.drewN nq).cell? _ = _ := c0'
      have c1n : (wr.drewN nq).cell? _ = _ := c1
      have c2n : (wr.drewN nq).cell? _ = _ := c2
      have c3n : (wr.drewN nq).cell? _ = _ := c3
      have c4n : (wr.drewN nq).cell? _ = _ := c4
      have c5n : (wr.drewN nq).cell? _ = _ := c5
      have c6n : (wr.drewN nq).cell? _ = _ := c6
      clear c0 c0' c1 c2 c3 c4 c5 c6
      generalize wr.drewN nq = wd at *
      go_wp2
      go_quiet (first
        | with_reducible exact Calls.quiet_of (R2.out _)
        | with_reducible exact Calls.quiet_of (R13.out _)
        | with_reducible exact Calls.quiet_of (R22.out _))
      rw [← HT2.out]
      have BB2 : Below w2.heap.size w2 (wd.drewN nq) := below_drewN BB1 nq
      have c0n2 : (wd.drewN nq).cell? _ = _ := c0n
      have c0'n2 : (wd.drewN nq).cell? _ = _ := c0'n
      have c1n2 : (wd.drewN nq).cell? _ = _ := c1n
      have c2n2 : (wd.drewN nq).cell? _ = _ := c2n
      have c3n2 : (wd.drewN nq).cell? _ = _ := c3n
      have c4n2 : (wd.drewN nq).cell? _ = _ := c4n
      have c5n2 : (wd.drewN nq).cell? _ = _ := c5n
      have c6n2 : (wd.drewN nq).cell? _ = _ := c6n
      clear c0n c0'n c1n c2n c3n c4n c5n c6n
      generalize wd.drewN nq = we at *
      obtain ⟨n0, hn0⟩ : ∃ x, x = (T1 + T2) % 4294967296 := ⟨_, rfl⟩
      obtain ⟨n4, hn4⟩ : ∃ x, x = (r3 + T1) % 4294967296 := ⟨_, rfl⟩
      rw [← hn0, ← hn4] at HE
      have HN0 : Hid (n0 = (T1 + T2) % 4294967296) := hn0
      have HN4 : Hid (n4 = (r3 + T1) % 4294967296) := hn4
      clear hn0 hn4
      go_wp2
      refine wp_region_any (by kernel_rfl) ?_
      change wpAny _ _ _ _ _ _ _ (World.drew _)
      refine wpAny_quiet_then (C := fun w' => ∃ n, w' = we.drewN n) 0 26 2 _ (by kernel_rfl) rfl (by kernel_rfl) (by kernel_rfl) ⟨1, rfl⟩ ?_
      simp only [List.take_succ_cons, List.take_zero, List.drop_zero]
      repeat (quiet_step (fail))
      refine wpQuiet_nil ?_
      rintro f _ ⟨nq, rfl⟩
      refine wpAny_ready (rs := [26]) (by kernel_rfl) (by simp) ?_
      refine AllReady.cons rfl (fun K hK => ?_) AllReady.nil
      refine step_build8W _ rfl (some 132) rfl (.tmp 108) (.tmp 111) (.tmp 114) (.tmp 117) (.tmp 122) (.tmp 125) (.tmp 128) (.tmp 131) rfl n0 r0 r1 r2 n4 r4 r5 r6 ⟨by rw [HN0.out]; rfl, rfl, rfl, rfl, by rw [HN4.out]; rfl, rfl, rfl, rfl⟩ (hK _ _ ?_)
      have BB3 : Below w2.heap.size w2 (we.drewN nq) := below_drewN BB2 nq
      have hw6 := (Ar.new (we.drewN nq) 107 .u32 [n0, r0, r1, r2, n4, r4, r5, r6]).wrd (by rw [← HE.out]; exact HRA.out _) (by simp)
      have BB4 : Below w2.heap.size w2 ((we.drewN nq).alloc (.cells (ints .u32 [n0, r0, r1, r2, n4, r4, r5, r6]) 107)) := BB3.alloc BB3.size _
      rw [← HE.out, HRL.out] at hw6
      have HW6 : Hid (Wrd ((we.drewN nq).alloc (.cells (ints .u32 [n0, r0, r1, r2, n4, r4, r5, r6]) 107)) (.slice (some ⟨(we.drewN nq).heap.size, 0, none⟩) 8 8) (RS (k + 1))) := by
        have e := HE.out
        rw [e] at hw6 ⊢
        exact hw6
      clear hw6
      simp only [Act.put, List.setIfInBounds_toArray, List.set_cons_zero, List.set_cons_succ]
      generalize (we.drewN nq).alloc (.cells (ints .u32 [n0, r0, r1, r2, n4, r4, r5, r6]) 107) = w6 at *
      generalize (we.drewN nq).heap.size = g6 at *
      refine wpAny_ready (rs := [27]) (by kernel_rfl) (by simp) ?_
      refine AllReady.cons rfl (fun K hK => ?_) AllReady.nil
      refine step_assign _ rfl (some 7) rfl (.tmp 132) rfl (.slice (some ⟨g6, 0, none⟩) 8 8) rfl (hK _ _ ?_)
      simp only [Act.put, List.setIfInBounds_toArray, List.set_cons_zero, List.set_cons_succ]
      refine wpAny_done (by kernel_rfl) ?_ _
      go_wp2
      go_roundw
      case rel => exact ⟨k + 1, by omega, by go_num, HW6.out, BB4⟩
      case measure => simp [intOf]; omega
    · have : k = 64 := by omega
      subst this
      obtain ⟨wx, rfl⟩ : ∃ wx, wx = wr := ⟨_, rfl⟩
      obtain ⟨bv, ov, cv, rfl, v1', v2', v3', hcell⟩ := hv.opn 8 (HRL.out 64) (by omega)
      have BX : Below w.heap.size w wx := C2.trans (hbel.mono C2.size)
      obtain ⟨bs', os, cs, rfl, t1', t2', t3', hcs⟩ := (HS.out.below BX).opn 8 H8.out (by omega)
      have HV8 : Hid (∀ t, t < 8 → wx.cell? ⟨bv, ov + t, none⟩ = some (.int .u32 (gb (RS 64) t))) := hcell
      have HS8 : Hid (∀ t, t < 8 → wx.cell? ⟨bs', os + t, none⟩ = some (.int .u32 (gb st t))) := hcs
      have HSN : Hid (∀ k, k < 8 → (addl st (RS 64)).take (k + 1) = (addl st (RS 64)).take k ++ [(gb (RS 64) k + gb st k) % 4294967296]) := fun k hk => addl_take st (RS 64) k hk
      have HT8 : Hid ((addl st (RS 64)).take 8 = addl st (RS 64)) := rfl
      have HT0 : Hid ((addl st (RS 64)).take 0 = []) := rfl
      have HAA : Hid (AllW (addl st (RS 64))) := addl_all _ _
      have HTL : Hid (∀ k, ((addl st (RS 64)).take k).length ≤ 8) := fun k => by show List.length _ ≤ 8; rw [List.length_take]; exact Nat.min_le_right _ _
      generalize addl st (RS 64) = ad at *
      generalize RS 64 = r at *
      clear hv hcell hcs HRN HR0 HRL HRA HRW HCK HCW HL2 q1 k0
      go_wp2
      go_loopw [11, 12] (fun o i wr => ∃ k : Nat, k ≤ 8 ∧ i = .int .i64 k ∧ OwnW wx.heap.size wr o (ad.take k) ∧ Below wx.heap.size wx wr) (fun _ i _ => 8 - (intOf i).toNat)
      case atStart => exact ⟨0, Nat.zero_le _, rfl, by rw [HT0.out]; exact OwnW.empty wx (Nat.le_refl _), (Below.refl _ _).alloc (Nat.le_refl _) _⟩
      case round =>
        obtain ⟨k, hk, rfl, hown, hbx⟩ := hrel
        have hsz := hbx.size
        have q1 : IntKind.i64.wrap (k : Int) = k := by rw [IntKind.wrap_i64]; omega
        have k0 : (0 : Int) ≤ (k : Int) := by omega
        by_cases hlt8 : k < 8
        · have k8 : (k : Int) < 8 := by omega
          have xv : wr.cell? ⟨bv, ov + k, none⟩ = some (.int .u32 (gb r k)) := (hbx.cell v3').trans (HV8.out k hlt8)
          have xs : wr.cell? ⟨bs', os + k, none⟩ = some (.int .u32 (gb st k)) := (hbx.cell t3').trans (HS8.out k hlt8)
          have SN : Hid (ad.take (k + 1) = ad.take k ++ [(gb r k + gb st k) % 4294967296]) := HSN.out k hlt8
          have HLE : Hid ((ad.take k).length ≤ 1099511627776) := by have := HTL.out k; show _ ≤ _; omega
          have HO : Hid (OwnW wx.heap.size wr u11 (ad.take k)) := hown
          generalize ad.take k = tk at *
          generalize gb r k = rk at *
          generalize gb st k = sk at *
          clear hown
          go_wp2
          refine wp_region_any (by kernel_rfl) ?_
          change wpAny _ _ _ _ _ _ _ (World.drew _)
          refine take_law0 0 (some 138) u11 rfl rfl (by kernel_rfl) (by kernel_rfl) (by kernel_rfl) (fun _ _ _ h => h) (Or.inl ⟨by rfl, fun w => by rfl⟩) ?_
          simp only [Act.put, List.setIfInBounds_toArray, List.set_cons_zero, List.set_cons_succ]
          refine wpAny_quiet_then (C := fun w' => ∃ n, w' = wr.drewN n) 1 10 3 _ (by kernel_rfl) rfl (by kernel_rfl) (by kernel_rfl) ⟨1, rfl⟩ ?_
          simp only [List.take_succ_cons, List.take_zero, List.drop_succ_cons, List.drop_zero]
          repeat (quiet_step (fail))
          refine wpQuiet_nil ?_
          rintro f _ ⟨nq, rfl⟩
          refine wpAny_ready (rs := [10]) (by kernel_rfl) (by simp) ?_
          refine AllReady.cons rfl (fun K hK => ?_) AllReady.nil
          refine step_build1W _ rfl (some 148) rfl (.tmp 147) rfl ((rk + sk) % 4294967296) rfl (hK _ _ ?_)
          simp only [Act.put, List.setIfInBounds_toArray, List.set_cons_zero, List.set_cons_succ]
          refine wpAny_ready (rs := [11]) (by kernel_rfl) (by simp) ?_
          refine AllReady.cons rfl (fun K hK => ?_) AllReady.nil
          refine step_push1W (wr.drewN nq) rfl (.tmp 138) (.tmp 148) rfl wx.heap.size (by simpa using hsz) _ tk ((rk + sk) % 4294967296) rfl rfl (HO.out.drew nq) HLE.out ?_
          intro v2 w7 O2 b2
          refine hK _ _ ?_
          have HO2 : Hid (OwnW wx.heap.size w7 v2 (tk ++ [(rk + sk) % 4294967296])) := O2
          clear O2
          simp only [Act.put, List.setIfInBounds_toArray, List.set_cons_zero, List.set_cons_succ]
          refine wpAny_ready (rs := [12]) (by kernel_rfl) (by simp) ?_
          refine AllReady.cons rfl (fun K hK => ?_) AllReady.nil
          refine step_assign _ rfl (some 11) rfl (.tmp 149) rfl v2 rfl (hK _ _ ?_)
          simp only [Act.put, List.setIfInBounds_toArray, List.set_cons_zero, List.set_cons_succ]
          refine wpAny_done (by kernel_rfl) ?_ _
          go_wp2
          go_roundw
          case rel =>
            iterate 18 (apply Exists.intro)
            refine ⟨?_, rfl⟩
            exact ⟨k + 1, by omega, by go_num, by rw [SN.out]; exact HO2.out, (below_drewN hbx nq).trans b2⟩
          case measure => simp [intOf]; omega
        · have : k = 8 := by omega
          subst this
          rw [HT8.out] at hown
          go_wp2
          go_ret
          exact ⟨_, rfl, by rw [HC.out]; exact hown.wrd HAA.out, BX.trans (hbx.mono BX.size)⟩
end Go.Proofs.YtmbfccclghnaeaaDoor.mc

/- What the reference's Sum answers. No claim of its own. -/
namespace Go.Proofs.YtmbfccclghnaeaaDoor.mc
open Go.RowKit
set_option maxRecDepth 20000

theorem whole_blocks (n : Nat) : (n + (padl n).length) % 64 = 0 := by
  have := zn_mod n
  rw [padl_len]; omega
theorem upto_next (ps : List Int) (k : Nat) : upto ps (k + 1) = comp (upto ps k) ((ps.take (64 * k + 64)).drop (64 * k)) := by
  show comp (upto ps k) ((ps.drop (64 * k)).take 64) = _
  rw [List.drop_take, show 64 * k + 64 - 64 * k = 64 by omega]

theorem _root_.Go.Proofs.YtmbfccclghnaeaaDoor.Own.mono {B B' : Nat} {w : World} {v : Value} {xs : List Int} (h : Own B w v xs) (hB : B' ≤ B) : Own B' w v xs :=
  ⟨h.1, h.2.imp id fun ⟨g, cap, cur, e, hg, rest⟩ => ⟨g, cap, cur, e, Nat.le_trans hB hg, rest⟩⟩

set_option maxRecDepth 100000 in
set_option maxHeartbeats 4000000 in
theorem rsum_own (w : World) (v : Value) (xs : List Int) (h : Byt w v xs) (hn : xs.length ≤ 1000000) :
    Calls Tryd.prog 60 #[v] w fun e w' => ∃ v', e = .returned v' ∧ Own w.heap.size w' v' (sumOf xs) ∧ Below w.heap.size w w' := by
  have HV : Hid (Byt w v xs) := h
  have HN : Hid (xs.length ≤ 1000000) := hn
  have HSO : Hid (sumOf xs = catw (upto (xs ++ padl xs.length) ((xs ++ padl xs.length).length / 64)) 8) := by show _ = _; rw [List.length_append]; rfl
  have HPL : Hid ((xs ++ padl xs.length).length % 64 = 0 ∧ (xs ++ padl xs.length).length ≤ 1001000) := by
    have h1 := whole_blocks xs.length
    have h2 := padl_len xs.length
    have h3 : zn xs.length < 64 := by unfold zn; omega
    rw [List.length_append]
    exact ⟨h1, by omega⟩
  have HRP : Hid (∀ w0, Byt w0 v xs → Calls Tryd.prog 71 #[v] w0 fun e w' => ∃ v', e = .returned v' ∧ Byt w' v' (xs ++ padl xs.length) ∧ Below w0.heap.size w0 w') := fun w0 h => rpad_any w0 v xs h hn
  generalize xs ++ padl xs.length = ps at *
  have HUL : Hid (∀ k, (upto ps k).length = 8) := upto_len ps
  have HUA : Hid (∀ k, AllW (upto ps k)) := upto_all ps
  have HUN : Hid (∀ k, upto ps (k + 1) = comp (upto ps k) ((ps.take (64 * k + 64)).drop (64 * k))) := upto_next ps
  have HU0 : Hid (upto ps 0 = fst8) := rfl
  generalize upto ps = U at *
  clear h hn
  go_enter Tryd.func60, Tryd.ntmps60
  go_wp2_with (first
    | (go_at_call 71; refine (HRP.out _ HV.out).mono ?_; rintro e w1 ⟨v1, rfl, hv1, B1⟩; have HV1 : Hid (Byt w1 v1 ps) := hv1; clear hv1; have s1 := B1.size)
    | (go_at_call 72; refine (rfirst_any _).mono ?_; rintro e w2 ⟨v2, rfl, hv2, B2⟩; have HV2 : Hid (Wrd w2 v2 fst8) := hv2; clear hv2))
  obtain ⟨ao, cap, rfl, hv1, hv2, -, -, -⟩ := id HV1.out
  obtain ⟨n, hnx⟩ : ∃ n, n = ps.length := ⟨_, rfl⟩
  rw [← hnx] at hv1 HV1 HPL HSO ⊢
  have HNX : Hid (n = ps.length) := hnx
  have n1 : n ≤ 1001000 := HPL.out.2
  have n2 : (n : Int) ≤ 1001000 := by omega
  clear hnx
  go_loopw [4, 5] (fun r i wr => ∃ k : Nat, 64 * k ≤ n ∧ i = .int .i64 (64 * (k : Int)) ∧ Wrd wr r (U k) ∧ Below w1.heap.size w1 wr) (fun _ i _ => n - (intOf i).toNat)
  case atStart => exact ⟨0, by omega, rfl, by rw [HU0.out]; exact HV2.out, B2⟩
  case round =>
    obtain ⟨k, hk, rfl, hv, hbel⟩ := hrel
    have hsz := hbel.size
    have k0 : (0 : Int) ≤ (k : Int) := by omega
    have k1 : 64 * (k : Int) ≤ 1001000 := by omega
    have q1 : IntKind.i64.wrap (64 * (k : Int)) = 64 * (k : Int) := by rw [IntKind.wrap_i64]; omega
    have q2 : IntKind.i64.wrap (64 * (k : Int) + 64) = 64 * (k : Int) + 64 := by rw [IntKind.wrap_i64]; omega
    by_cases hlt : 64 * k + 64 ≤ n
    · have k2 : 64 * (k : Int) + 64 ≤ (n : Int) := by omega
      have HVr : Hid (Byt wr (.slice ao n cap) ps) := HV1.out.below hbel
      have HR : Hid (Wrd wr u4 (U k)) := hv
      have HE : Hid (U (k + 1) = comp (U k) ((ps.take (64 * k + 64)).drop (64 * k))) := HUN.out k
      have HL64 : Hid (((ps.take (64 * k + 64)).drop (64 * k)).length = 64) := by show _ = _; have := HNX.out; simp; omega
      generalize hpk : (ps.take (64 * k + 64)).drop (64 * k) = pk at HE HL64
      have HPK : Hid ((ps.take (64 * k + 64)).drop (64 * k) = pk) := hpk
      clear hv hpk
      go_wp2_with (first
        | (refine cut_part _ rfl (.tmp 19) (.tmp 20) (.tmp 22) rfl _ ps _ _ (64 * k) (64 * k + 64) rfl rfl rfl (by omega) (by omega) (by omega) (by have := HNX.out; omega) HVr.out ?_; intro v' hv'; rw [HPK.out] at hv'; have HV' : Hid (Byt wr v' pk) := hv'; clear hv')
        | (go_at_call 73; refine (rcompress_any _ _ _ (U k) pk HR.out HV'.out (HUL.out k) HL64.out).mono ?_; rintro e w3 ⟨v3, rfl, hv3, b3⟩; rw [← HE.out] at hv3; have HV3 : Hid (Wrd w3 v3 (U (k + 1))) := hv3; clear hv3))
      go_roundw
      case rel => exact ⟨k + 1, by omega, by go_num, HV3.out, hbel.trans (b3.mono hsz)⟩
      case measure => simp [intOf]; omega
    · have hkn : k = n / 64 := by have := HPL.out.1; omega
      obtain ⟨wx, rfl⟩ : ∃ wx, wx = wr := ⟨_, rfl⟩
      obtain ⟨bv, ov, cv, rfl, v1', v2', v3', hcell⟩ := hv.opn 8 (HUL.out k) (by omega)
      have BX : Below w.heap.size w wx := B1.trans (hbel.mono s1)
      have HV8 : Hid (∀ t, t < 8 → wx.cell? ⟨bv, ov + t, none⟩ = some (.int .u32 (gb (U k) t))) := hcell
      have HWA : Hid (AllW (U k)) := HUA.out k
      rw [← hkn] at HSO
      have k2 : ¬ 64 * (k : Int) + 64 ≤ (n : Int) := by omega
      have HCN : Hid (∀ j, catw (U k) (j + 1) = catw (U k) j ++ be4 (gb (U k) j)) := fun j => rfl
      have HC0 : Hid (catw (U k) 0 = []) := rfl
      have HCL : Hid (∀ j, (catw (U k) j).length = 4 * j) := catw_len (U k)
      have HCA : Hid (AllB (catw (U k) 8)) := catw_all _ _
      generalize U k = u at *
      generalize catw u = cu at *
      clear hv hcell HUN HU0 HUL HUA HRP
      go_wp2
      go_loopw [6, 7] (fun o i wr => ∃ j : Nat, j ≤ 8 ∧ i = .int .i64 j ∧ Own wx.heap.size wr o (cu j) ∧ Below wx.heap.size wx wr) (fun _ i _ => 8 - (intOf i).toNat)
      case atStart => exact ⟨0, Nat.zero_le _, rfl, by rw [HC0.out]; exact Own.empty wx (Nat.le_refl _), (Below.refl _ _).alloc (Nat.le_refl _) _⟩
      case round =>
        obtain ⟨j, hj, rfl, hown, hbx⟩ := hrel
        have hsz2 := hbx.size
        have q3 : IntKind.i64.wrap (j : Int) = j := by rw [IntKind.wrap_i64]; omega
        have j0 : (0 : Int) ≤ (j : Int) := by omega
        by_cases hlt8 : j < 8
        · have j8 : (j : Int) < 8 := by omega
          have xv : wr.cell? ⟨bv, ov + j, none⟩ = some (.int .u32 (gb u j)) := (hbx.cell v3').trans (HV8.out j hlt8)
          have SN : Hid (cu (j + 1) = cu j ++ be4 (gb u j)) := HCN.out j
          have HLE : Hid ((cu j).length ≤ 1099511627776) := by have := HCL.out j; show _ ≤ _; omega
          obtain ⟨g1, g2⟩ : 0 ≤ gb u j ∧ gb u j ≤ 4294967295 := HWA.out j
          have HBE : Hid ((le (gb u j) (clamp 4 8)).reverse = be4 (gb u j)) := be4_of _
          have HBL : Hid ((be4 (gb u j)).length = 4) := be4_len _
          have HO : Hid (Own wx.heap.size wr u6 (cu j)) := hown
          generalize be4 (gb u j) = bu at *
          generalize gb u j = x at *
          generalize cu j = cj at *
          have y1 : IntKind.u64.wrap x = x := by rw [IntKind.wrap_u64]; omega
          clear hown
          go_wp2_with (first
            | (go_at_call 39; refine (rbig_any x 4 _ (by omega)).mono ?_; rintro e w5 ⟨v5, rfl, hv5, hb5⟩; rw [HBE.out] at hv5; have HV5 : Hid (Byt w5 v5 bu) := hv5; clear hv5; have s5 : wx.heap.size ≤ w5.heap.size := Nat.le_trans hsz2 hb5.size; have HO5 : Hid (Own wx.heap.size w5 u6 cj) := ownsRow_below HO.out hb5)
            | (refine pushs_law _ rfl (.tmp 30) (.tmp 36) rfl wx.heap.size s5 _ _ cj bu rfl rfl HO5.out HV5.out HLE.out (by rw [HBL.out]; omega) ?_; intro v6 w6 O6 b6; have HO6 : Hid (Own wx.heap.size w6 v6 (cj ++ bu)) := O6; clear O6))
          go_roundw
          case rel => exact ⟨j + 1, by omega, by go_num, by rw [SN.out]; exact HO6.out, hbx.trans ((hb5.mono hsz2).trans b6)⟩
          case measure => simp [intOf]; omega
        · have : j = 8 := by omega
          subst this
          go_wp2
          go_ret
          exact ⟨_, rfl, by rw [HSO.out]; exact hown.mono BX.size, BX.trans (hbx.mono BX.size)⟩

theorem sumOf_len (xs : List Int) : (sumOf xs).length = 32 := catw_len _ _
theorem sumOf_all (xs : List Int) : AllB (sumOf xs) := catw_all _ _
theorem rsum_any (w : World) (v : Value) (xs : List Int) (h : Byt w v xs) (hn : xs.length ≤ 1000000) :
    Calls Tryd.prog 60 #[v] w fun e w' => ∃ v', e = .returned v' ∧ Byt w' v' (sumOf xs) ∧ Below w.heap.size w w' :=
  (rsum_own w v xs h hn).mono fun _ _ ⟨v', he, ho, hbl⟩ => ⟨v', he, ho.byt (sumOf_all _), hbl⟩
end Go.Proofs.YtmbfccclghnaeaaDoor.mc

