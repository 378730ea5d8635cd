/- What sha's wordsToBytes and padding answer. No claim of its own. -/
import Derived.Test.YtaplllonomdgeaaStretch
namespace Go.Proofs.Ytaplllonomdgeaa
open Go.RowKit

theorem OwnN.ar {B : Nat} {w : World} {g n : Nat} {xs : List Int} (h : OwnN B w g n xs) : Ar w g 0 .u8 xs := Ar.mk fun i hi => by
  have hl := h.1
  rw [Nat.zero_add]
  exact ⟨h.cell (by omega), h.free i⟩

theorem run_copy_byt (w : World) (b p dl dc : Nat) (ao : Option Addr) (ys : List Int) (cap : Nat) (ty : TypeId) (h5 : 0 < ys.length → ∃ b off, ao = some ⟨b, off, none⟩ ∧ ∀ t, t < ys.length → w.cell? ⟨b, off + t, none⟩ = some (.int .u8 (gb ys t))) (ht : w.there b p (min ys.length dl)) :
    (Builtin.copy_ #[22, 22] ty #[.slice (some ⟨b, p, none⟩) dl dc, .slice ao ys.length cap]).run Try.prog w = .ok (.int .i64 ((min ys.length dl : Nat) : Int)) (w.setCells b p ((ys.take dl).map (Value.int .u8))) := by
  obtain ⟨i0, hi, hz0, hz1, hz2⟩ := info_parts info_u8
  have hs : (Try.prog.info? 5).map (·.size) = some 1 := by rw [hi]; simp [hz1]
  by_cases hz : min ys.length dl = 0
  · have := run_copy_none (P := Try.prog) w 22 22 ty 5 (some ⟨b, p, none⟩) ao dl dc ys.length cap Try.underlying22 hs hz
    rw [this, hz]
    have : ys.take dl = [] := by
      rcases Nat.eq_zero_or_pos dl with h | h
      · subst h; simp
      · have : ys = [] := List.eq_nil_of_length_eq_zero (by omega)
        subst this; simp
    rw [this]; rfl
  · obtain ⟨b', off, rfl, hc⟩ := h5 (by omega)
    have hlen : ((ys.take dl).map (Value.int .u8)).length = min ys.length dl := by simp; omega
    have := run_copy_cells (P := Try.prog) w 22 22 ty 5 b p dl dc ⟨b', off, none⟩ ys.length cap ((ys.take dl).map (Value.int .u8)) Try.underlying22 hs hlen (fun j u hj => by
      have hj' : j < min ys.length dl := by rw [← hlen]; exact (List.getElem?_eq_some_iff.1 hj).1
      rw [Addr.add_mid, hc j (by omega), ← hj]
      simp [gb, List.getD, show j < dl by omega, show j < ys.length by omega]) (fun j hj => (ht j (by rw [← hlen]; exact hj)).1) (fun j hj => (ht j (by rw [← hlen]; exact hj)).2) (fun u hu => by
      simp only [List.mem_map] at hu
      obtain ⟨x, _, rfl⟩ := hu
      rfl)
    rw [this, hlen]; rfl

section
variable {ops : Array Oper} {o : Oper} {a : Act} {Q : Exit → Act → World → Prop} {K : Act → World → Prop} {E : Prop}
/-- 'copy(d, s)' in a region that draws its order -/
theorem step_copy (w : World) (hg : o.guard = none) (d : Option Tmp) (hd : o.dst = d) (x y : Operand) (hop : o.op = .call { callee := .builtin .copy, args := #[x, y], argTypes := #[22, 22] })
    (b p dl dc : Nat) (v : Value) (ys : List Int) (hx : a.eval x = .slice (some ⟨b, p, none⟩) dl dc) (hy : a.eval y = v) (hb : Byt w v ys) (ht : w.there b p (min ys.length dl))
    (hK : K (a.put d (.int .i64 ((min ys.length dl : Nat) : Int))) (w.setCells b p ((ys.take dl).map (Value.int .u8)))) :
    if Region.wanted o (yielded ops a.tmps) = true then Oper.wp Try.prog o a w K Q else E := by
  have hw : Region.wanted o (yielded ops a.tmps) = true := by simp [Region.wanted, hg]
  rw [if_pos hw]
  subst hd
  obtain ⟨ao, cap, rfl, h1, h2, h3, h4, h5⟩ := hb
  have hrun := run_copy_byt w b p dl dc ao ys cap o.type h5 ht
  unfold Oper.wp execOp
  simp only [hop, resolve, invoke, builtin, Sem.run_bind, Sem.run_pure, Result.andThen_ok, List.map_toArray, List.map_cons, List.map_nil, hx, hy, hrun]
  exact hK
end

theorem info_u32 : (Try.prog.info? 59).map (fun i => (i.zero, i.size, i.bytes)) = some (some (.int .u32 0), 1, 4) := by kernel_rfl
theorem run_size_u32 (w : World) : (sizeOf 59).run Try.prog w = .ok 1 w := by
  obtain ⟨i0, hi, hz0, hz1, hz2⟩ := info_parts info_u32
  simp [sizeOf, typeInfo, hi, hz1]
/-- an array's element -/
theorem idx_law {ops : Array Oper} {rest : List Oper} {o : Oper} {a : Act} {Q : Exit → Act → World → Prop} (w : World) (hg : o.guard = none) (x y : Operand) (hop : o.op = Op.index 60 x y) (xs : List Int) (I : Int) (i : Nat) (hx : a.eval x = .agg (ints .u32 xs)) (hy : a.eval y = .int .i64 I) (hI : I = (i : Int)) (hl : xs.length = 8) (hi : i < 8)
    (q : Int) (hq : q = gb xs i) (hK : wpList Try.prog ops Q rest (a.put o.dst (.int .u32 q)) w) : wpList Try.prog ops Q (o :: rest) a w := by
  subst hq
  subst hI
  refine wpList_plain hg fun K hK' => ?_
  have e : (ints .u32 xs)[i]? = some (.int .u32 (gb xs i)) := by simp [ints, gb, List.getD, show i < xs.length by omega]
  have hu := Try.underlying60
  have hu2 := Try.underlying59
  have hsz : (ints .u32 xs).size = 8 := by simp [ints, hl]
  have hr : (Instr.index 60 (.agg (ints .u32 xs)) (.int .i64 i)).run Try.prog w = .ok (.int .u32 (gb xs i)) w := by
    simp [Instr.index, asIntOf, run_underlying hu, run_underlying hu2, part, isAgg, e]
    intro h; omega
  unfold Oper.wp execOp
  simp only [hop, hx, hy, Sem.run_bind, Sem.run_pure, Result.andThen_ok, hr]
  exact hK' _ _ hK

/-- four bytes of a word, the greatest first -/
def be4 (x : Int) : List Int := (le x 4).reverse
theorem be4_of (x : Int) : (le x (clamp 4 8)).reverse = be4 x := by rw [show clamp 4 8 = 4 by decide]; rfl
theorem be4_len (x : Int) : (be4 x).length = 4 := by simp [be4, le_len]
theorem be4_all (x : Int) : AllB (be4 x) := allB_reverse (le_all _ _)
/-- the bytes of the first k words -/
def catw (st : List Int) : Nat → List Int
  | 0 => []
  | k + 1 => catw st k ++ be4 (gb st k)
theorem catw_len (st : List Int) (k : Nat) : (catw st k).length = 4 * k := by
  induction k with
  | zero => rfl
  | succ k ih => simp [catw, ih, be4_len]; omega
theorem allB_append {xs ys : List Int} (h1 : AllB xs) (h2 : AllB ys) : AllB (xs ++ ys) := allB_mem fun x hx => by
  rcases List.mem_append.1 hx with h | h
  · obtain ⟨j, hj, rfl⟩ := List.getElem_of_mem h
    have := h1 j; simpa [gb, List.getD, hj] using this
  · obtain ⟨j, hj, rfl⟩ := List.getElem_of_mem h
    have := h2 j; simpa [gb, List.getD, hj] using this
theorem catw_all (st : List Int) (k : Nat) : AllB (catw st k) := by
  induction k with
  | zero => exact allB_mem (by simp [catw])
  | succ k ih => exact allB_append ih (be4_all _)
def catAt (st : List Int) (k : Nat) : List Int := catw st k ++ List.replicate (32 - 4 * k) 0
theorem catAt_len (st : List Int) (k : Nat) (h : k ≤ 8) : (catAt st k).length = 32 := by simp [catAt, catw_len]; omega
theorem catAt_lay (st : List Int) (k : Nat) (h : k < 8) : laid (catAt st k) (4 * k) (be4 (gb st k)) = catAt st (k + 1) := by
  have e1 : (catAt st k).take (4 * k) = catw st k := by
    unfold catAt
    rw [List.take_append_of_le_length (by rw [catw_len]; omega), List.take_of_length_le (by rw [catw_len]; omega)]
  have e2 : (catAt st k).drop (4 * k + 4) = List.replicate (32 - 4 * (k + 1)) 0 := by
    unfold catAt
    rw [List.drop_append, List.drop_of_length_le (by rw [catw_len]; omega), catw_len, List.nil_append, List.drop_replicate]
    congr 1; omega
  unfold laid
  rw [be4_len, e1, e2]
  rfl

set_option maxHeartbeats 1000000 in
theorem wordsToBytes_any (st : List Int) (w : World) (hs : AllW st) (hl : st.length = 8) :
    Calls Try.prog 43 #[.agg (ints .u32 st)] w fun e w' => ∃ v, e = .returned v ∧ Byt w' v (catw st 8) ∧ (∃ g, v = .slice (some ⟨g, 0, none⟩) 32 32 ∧ w.heap.size ≤ g ∧ Ar w' g 0 .u8 (catw st 8)) ∧ Below w.heap.size w w' := by
  have HS : Hid (AllW st) := hs
  have HL : Hid (st.length = 8) := hl
  clear hs hl
  have B0 : Below w.heap.size w (w.alloc (Obj.cells (ints IntKind.u32 st) 60)) := (Below.refl _ _).alloc (Nat.le_refl _) _
  have A0 : Ar (w.alloc (Obj.cells (ints IntKind.u32 st) 60)) w.heap.size 0 .u32 st := Ar.new w _ _ _
  have hz : (w.alloc (Obj.cells (ints IntKind.u32 st) 60)).heap.size = w.heap.size + 1 := by simp
  go_enter Try.func43, Try.ntmps43
  go_wp2_with (first
    | (refine box_law _ rfl (.tmp 0) 60 rfl .u32 st rfl ?_)
    | (at_make; refine make_law _ rfl _ _ rfl (w.heap.size + 1) (by rw [hz]; exact Nat.le_refl _) _ 32 rfl rfl rfl (by omega) ?_; intro w1 hown hbel hlt)
    | (refine load_law _ rfl (.tmp 1) 60 rfl .u32 st _ _ rfl (A0.below hbel (by omega)) 8 59 Try.underlying60 i_arr8 HL.out ?_))
  have A1 := hown.ar
  rw [hz] at A1
  have B1 : Below w.heap.size w w1 := B0.trans (hbel.mono (by omega))
  rw [hz] at hlt
  clear hown hbel A0 B0 hz
  go_loopw [8] (fun i wr => ∃ k : Nat, k ≤ 8 ∧ i = .int .i64 k ∧ Ar wr (w.heap.size + 1) 0 .u8 (catAt st k) ∧ Below w.heap.size w wr ∧ w.heap.size + 1 < wr.heap.size) (fun i _ => 8 - (intOf i).toNat)
  case atStart => exact ⟨0, by omega, rfl, A1, B1, hlt⟩
  case round =>
    clear A1 B1 hlt
    obtain ⟨k, hk, rfl, A1, B1, hlt⟩ := hrel
    by_cases hk8 : k < 8
    · have HT : Hid (wr.there (w.heap.size + 1) (4 * k) 4) := by
        intro j hj
        have := A1.2 (4 * k + j) (by rw [catAt_len st k hk]; omega)
        rw [Nat.zero_add] at this
        exact this
      have HLAY := catAt_lay st k hk8
      have HL4 := be4_len (gb st k)
      obtain ⟨x, hx⟩ : ∃ x, x = gb st k := ⟨_, rfl⟩
      have HX : Hid (x = gb st k) := hx
      have WX : Hid (W32 x) := by rw [hx]; exact HS.out k
      have hx0 : 0 ≤ x := WX.out.1
      have hx1 : x ≤ 4294967295 := WX.out.2
      have hx64 : IntKind.u64.wrap x = x := by rw [IntKind.wrap_u64]; omega
      rw [← hx] at HLAY HL4
      have HLAY' : Hid (laid (catAt st k) (4 * k) (be4 x) = catAt st (k + 1)) := HLAY
      have HL4' : Hid ((be4 x).length = 4) := HL4
      have HLC : Hid ((catAt st k).length = 32) := catAt_len st k hk
      clear hx HLAY HL4
      obtain ⟨m, hm⟩ : ∃ m, m = 4 * k := ⟨_, rfl⟩
      have z0 : 4 * (k : Int) = (m : Int) := by omega
      have z1 : (m : Int) ≤ 32 := by omega
      have z2 : ¬ 32 = m := by omega
      have z3 : IntKind.i64.wrap (m : Int) = (m : Int) := by rw [IntKind.wrap_i64]; omega
      have z4 : (0 : Int) ≤ (m : Int) := by omega
      rw [← hm] at HLAY' HT
      have HM : Hid (m = 4 * k) := hm
      clear hm
      go_wp2_with (refine idx_law _ rfl (.tmp 7) (.tmp 8) rfl st _ k rfl rfl rfl HL.out hk8 x HX.out ?_)
      go_region_held3 (fun w' => w'.there (w.heap.size + 1) m 4)
        (first | with_reducible exact World.there_setCells T1 _ _ _ | with_reducible exact T1 | with_reducible exact (World.there_drew ..).2 HT.out)
        (first
          | (go_at_call_of 24 (Value.int .u64 x); refine (big_any x 4 _ ⟨hx0, by omega⟩).mono ?_; rintro e w2 ⟨v2, rfl, hv2, hb2⟩; rw [be4_of] at hv2; have A2 : Ar w2 (w.heap.size + 1) 0 .u8 (catAt st k) := Ar.below (w := wr.drew) (A1.heap rfl) hb2 hlt; have T1 : w2.there (w.heap.size + 1) m 4 := fun j hj => by { have := A2.2 (m + j) (by rw [HLC.out]; have := HM.out; omega); rw [Nat.zero_add] at this; exact this })
          | (refine step_copy _ rfl (some 19) rfl (.tmp 15) (.tmp 18) rfl (w.heap.size + 1) m (32 - m) (32 - m) v2 (be4 x) rfl rfl hv2 (by rw [HL4'.out]; intro j hj; exact T1 j (by omega)) ?_)
          | fail)
      have A3 : Ar (w2.setCells (w.heap.size + 1) m (((be4 x).take (32 - m)).map (Value.int .u8))) (w.heap.size + 1) 0 .u8 (catAt st (k + 1)) := by
        have h4 := HL4'.out
        have hm := HM.out
        have := A2.lay m (be4 x) (by rw [h4, HLC.out]; omega)
        rw [HLAY'.out, Nat.zero_add] at this
        rw [List.take_of_length_le (by omega)]
        exact this
      have B3 : Below w.heap.size w (w2.setCells (w.heap.size + 1) m (((be4 x).take (32 - m)).map (Value.int .u8))) := Lib.below_setCells _ (by omega) _ _ (B1.drew.trans (hb2.mono B1.size))
      have Z3 : w.heap.size + 1 < (w2.setCells (w.heap.size + 1) m (((be4 x).take (32 - m)).map (Value.int .u8))).heap.size := A3.lt (by rw [catAt_len st (k + 1) (by omega)]; omega)
      generalize w2.setCells (w.heap.size + 1) m (((be4 x).take (32 - m)).map (Value.int .u8)) = w3 at A3 B3 Z3 ⊢
      go_wp2
      go_roundw
      case rel => exact ⟨k + 1, by omega, by go_num, A3, B3, Z3⟩
      case measure => simp [intOf]; omega
    · have : k = 8 := by omega
      subst this
      have e8 : catAt st 8 = catw st 8 := by simp [catAt]
      rw [e8] at A1
      have L8 : (catw st 8).length = 32 := catw_len st 8
      have HB : Hid (Byt wr (.slice (some ⟨w.heap.size + 1, 0, none⟩) 32 32) (catw st 8)) := by
        have := A1.byt (catw_all st 8) 0 32 32 (by omega) (by omega) (by omega) (by omega)
        rw [List.take_of_length_le (by omega), List.drop_zero] at this
        exact this
      have HA : Hid (Ar wr (w.heap.size + 1) 0 .u8 (catw st 8)) := A1
      clear e8 A1 L8
      go_wp2
      go_ret
      exact ⟨_, rfl, HB.out, ⟨_, rfl, by omega, HA.out⟩, B1⟩
end Go.Proofs.Ytaplllonomdgeaa
