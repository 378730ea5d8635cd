/- What the reference's Hold answers. No claim of its own. -/
import Derived.Test.YtahfcpdekjdceaaDoorPackK
import Derived.Test.YtahfcpdekjdceaaDoorXPRrd
namespace Go.Proofs.YtahfcpdekjdceaaDoor.ck
open Go.RowKit Go.Proofs.YtahfcpdekjdceaaDoor.fa Go.Proofs.YtahfcpdekjdceaaDoor.he Go.Proofs.YtahfcpdekjdceaaDoor.pa
set_option maxRecDepth 20000

/-- what is held, as cells -/
def hdl (g : Int) (v : Value) (ok : Bool) : List Value := [.int .u64 g, v, .bool ok]
def Z3 : List Value := hdl 0 (.slice none 0 0) false
theorem hdl_one (g : Int) (ao : Option Addr) (n c : Nat) (b : Bool) : ∀ v ∈ hdl g (.slice ao n c) b, v.oneCell' = true := by
  intro v h
  simp only [hdl, List.mem_cons, List.not_mem_nil, or_false] at h
  rcases h with rfl | rfl | rfl <;> rfl
theorem hdl_nob (g : Int) (ao : Option Addr) (n c : Nat) (b : Bool) : ∀ v ∈ hdl g (.slice ao n c) b, ∀ y, v ≠ .int .u8 y := by
  intro v h y q
  subst q
  simp [hdl] at h
theorem rowy_held : Rowy 39 3 := ⟨⟨_, Tryd.underlying39, rfl⟩, by kernel_rfl⟩
theorem zero_held : (Tryd.prog.info? 39).map (fun i => (i.zero, i.size)) = some (some (.agg Z3.toArray), 3) := by kernel_rfl
theorem one_u64 : One 25 := ⟨⟨_, Tryd.underlying25, rfl⟩, by kernel_rfl⟩
theorem range_head10 {w : World} {g : Nat} {k n c l e t : Int} {pv tv : Value} {d b : Bool} (h : w.rangeAt g 0 (pg10 k n c l e t pv tv d b)) : w.rangeAt g 0 (hv k n c l e t) := fun j v hj => by
  refine h j v ?_
  have hl : j < (hv k n c l e t).length := (List.getElem?_eq_some_iff.1 hj).1
  rw [show pg10 k n c l e t pv tv d b = hv k n c l e t ++ [pv, tv, .bool d, .bool b] from rfl, List.getElem?_append_left hl]
  exact hj
section
variable {ev : Operand → Value} {o : Oper}
theorem exec_lenB (x : Operand) (hop : o.op = .call { callee := .builtin .len, args := #[x], argTypes := #[24] }) (ao : Option Addr) (n c : Nat) (hx : ev x = .slice ao n c) (w : World) : (execOp ev o).run Tryd.prog w = .ok (.value (.int .i64 (n : Int))) w := by
  simp [execOp, hop, resolve, invoke, builtin, hx, Result.andThen]
  rfl
theorem exec_neqI (x y : Operand) (hop : o.op = Op.binOp .neq 3 x y 3) (A B : Int) (hx : ev x = .int .i64 A) (hy : ev y = .int .i64 B) (b : Bool) (hb : (A != B) = b) (w : World) : (execOp ev o).run Tryd.prog w = .ok (.value (.bool b)) w := by
  subst hb
  unfold execOp
  simp only [hop, hx, hy]
  rfl
theorem exec_eqlI (x y : Operand) (hop : o.op = Op.binOp .eql 3 x y 3) (A B : Int) (hx : ev x = .int .i64 A) (hy : ev y = .int .i64 B) (b : Bool) (hb : (A == B) = b) (w : World) : (execOp ev o).run Tryd.prog w = .ok (.value (.bool b)) w := by
  subst hb
  unfold execOp
  simp only [hop, hx, hy]
  rfl
theorem exec_notB (x : Operand) (hop : o.op = Op.unOp .not 4 x) (b c : Bool) (hx : ev x = .bool b) (hc : (!b) = c) (w : World) : (execOp ev o).run Tryd.prog w = .ok (.value (.bool c)) w := by
  subst hc
  unfold execOp
  simp only [hop, hx]
  rfl
end
theorem step_setC {ops : Array Oper} {o : Oper} {a : Act} {Q : Exit → Act → World → Prop} {K : Act → World → Prop} {E : Prop} (w : World) (hg : o.guard = none) (d : Option Tmp) (hd : o.dst = d) (x y : Operand) (t : TypeId) (hop : o.op = Op.store t x y) (cs : List Value) (c j : Nat) (v : Value) (hx : a.eval x = .pointer (some ⟨c, j, none⟩)) (hy : a.eval y = v) (hV : Vr w c cs) (hN : NoB w c) (hj : j < cs.length) (h1 : v.oneCell' = true) (hc : v.cells = #[v]) (hv : ∀ y, v ≠ .int .u8 y) (hi : (Tryd.prog.info? t).map (·.size) = some 1)
    (hK : ∀ w', Vr w' c (cs.set j v) → NoB w' c → Below c w w' → (∀ k, k ≠ c → w'.heap[k]? = w.heap[k]?) → K (a.put d undef) w') : if Region.wanted o (yielded ops a.tmps) = true then Oper.wp Tryd.prog o a w K Q else E := by
  have hw : Region.wanted o (yielded ops a.tmps) = true := by simp [Region.wanted, hg]
  rw [if_pos hw]
  subst hd
  have hcell := hV.cell j _ (List.getElem?_eq_getElem hj)
  have hf := hV.free j hj
  have hr : (storeVar t ⟨c, j, none⟩ v).run Tryd.prog w = .ok () (w.setCell ⟨c, j, none⟩ v) := by
    have e0 : ∀ i, i < [v].length → i = 0 := fun i hi => by simpa using hi
    have := run_storeCells_cells (P := Tryd.prog) c j [v] 0 w (fun i hi => by rw [e0 i hi]; simp [hcell]) (fun i hi => by rw [e0 i hi]; simpa using hf) (fun z hz => by simp at hz; subst hz; exact h1)
    cases hq : Tryd.prog.info? t with
    | none => simp [hq] at hi
    | some i =>
      have hs : i.size = 1 := by simpa [hq] using hi
      simp only [Nat.add_zero] at this
      simp [storeVar, sizeOf, typeInfo, hq, hc, hs]
      simpa [World.setCells] using this
  unfold Oper.wp execOp
  simp only [hop, hx, hy, Instr.storeAt, Instr.sureAddr, Sem.run_bind, Sem.run_pure, Result.andThen_ok, hr]
  exact hK _ (hV.set j hj v) (nob_one hN hcell hv) ((Below.refl c w).setCell (p := ⟨c, j, none⟩) (Nat.le_refl _) _) (fun k hk => heap_one w c j v k hk)
theorem step_load1 {ops : Array Oper} {o : Oper} {a : Act} {Q : Exit → Act → World → Prop} {K : Act → World → Prop} {E : Prop} (w : World) (hg : o.guard = none) (d : Option Tmp) (hd : o.dst = d) (t : TypeId) (ht : One t) (x : Operand) (hop : o.op = Op.load t x) (b p : Nat) (v : Value) (hx : a.eval x = .pointer (some ⟨b, p, none⟩)) (hc : w.cell? ⟨b, p, none⟩ = some v) (hK : K (a.put d v) w) : if Region.wanted o (yielded ops a.tmps) = true then Oper.wp Tryd.prog o a w K Q else E := by
  have hw : Region.wanted o (yielded ops a.tmps) = true := by simp [Region.wanted, hg]
  rw [if_pos hw]
  subst hd
  unfold Oper.wp
  rw [exec_loadN t x hop _ hx v w (load_one ht hc)]
  exact hK
/-- what the reference's Hold answers -/
def RHoldIs (S : Nat) (ls : List (List Int)) (x : Ending) (w' : World) : Prop :=
  (Khd S ls ∧ ∃ ro rc, x = .returned (.agg (hdl (kgen S ls) (.slice ro 624 rc) true).toArray) ∧ Byt w' (.slice ro 624 rc) (krec S ls)) ∨
  (¬ Khd S ls ∧ x = .returned (.agg Z3.toArray))

set_option maxHeartbeats 4000000 in
theorem rhold_few (g0 g1 g3 g4 g5 : Int) (S : Nat) (ao : Option Addr) (n cap : Nat) (w : World) (hr : ge.Rt [g0, g1, (S : Int), g3, g4, g5]) (hl : n < nc S) :
    Calls Tryd.prog 15 #[.agg (ints .i64 [g0, g1, (S : Int), g3, g4, g5]), .slice ao n cap] w fun x w' => x = .returned (.agg Z3.toArray) ∧ Below w.heap.size w w' := by
  have SC : Hid (∀ w0, Calls Tryd.prog 25 #[.agg (ints .i64 [g0, g1, (S : Int), g3, g4, g5])] w0 fun x w' => x = .returned (.int .i64 (nc S : Int)) ∧ Below w0.heap.size w0 w') := fun w0 => rchunks_nc hr w0
  have n1 : (n : Int) < (nc S : Int) := by omega
  generalize (nc S : Int) = N at SC n1
  clear hr hl
  have t0 : (0 : Nat) = 0 := rfl
  go_enter Tryd.func15, Tryd.ntmps15
  go_wp2_with (first
    | (have q4 := t4; (with_reducible refine at_store ?_); refine store_lawC _ Z3 w1.heap.size 0 rfl rfl H4.out.2 rowy_held.2 (hdl_one _ _ _ _ _) ?_; intro w4 E9 R9 T9 B9; have K9 : ∀ k, k ≠ w1.heap.size → w4.heap[k]? = w3.heap[k]? := (by rw [E9.out]; exact fun k hk => heap_cells _ _ _ _ k hk); have HB0 : Hid (Vr w4 w.heap.size [.int .i64 g0, .int .i64 g1, .int .i64 (S : Int), .int .i64 g3, .int .i64 g4, .int .i64 g5]) := HB0.out.heap (K9 _ (Nat.ne_of_lt LT_HB0_H4.out)); have NB_H4 : Hid (NoB w4 w1.heap.size) := (by rw [E9.out]; exact NB_H4.out.set H4.out rfl (hdl_nob _ _ _ _ _)); have H4 : Hid (Vr w4 w1.heap.size Z3) := ⟨R9, T9⟩; have BB : Hid (Below w.heap.size w w4) := BB.out.trans (B9.mono LE_H4.out); clear hb0_0 hb0_1 hb0_2 hb0_3 hb0_4 hb0_5; have hb0_0 := HB0.out.cell 0 _ rfl; have hb0_1 := HB0.out.cell 1 _ rfl; have hb0_2 := HB0.out.cell 2 _ rfl; have hb0_3 := HB0.out.cell 3 _ rfl; have hb0_4 := HB0.out.cell 4 _ rfl; have hb0_5 := HB0.out.cell 5 _ rfl; clear E9 R9 T9 B9 K9; clear t4; have t5 : (1 : Nat) = 1 := rfl)
    | (have q3 := t3; refine build_law _ rfl 39 _ rfl (.agg Z3.toArray) (by kernel_rfl) ?_; clear t3; have t4 : (1 : Nat) = 1 := rfl)
    | (have q2 := t2; go_at_call 25; refine (SC.out w2).mono ?_; rintro e9 w3 ⟨rfl, B9⟩; have HB0 : Hid (Vr w3 w.heap.size [.int .i64 g0, .int .i64 g1, .int .i64 (S : Int), .int .i64 g3, .int .i64 g4, .int .i64 g5]) := HB0.out.below B9 (range_lt HB0.out.1 (Nat.succ_pos _)); have NB_H4 : Hid (NoB w3 w1.heap.size) := NB_H4.out.heap (B9.block _ (range_lt H4.out.1 (Nat.succ_pos _))); have H4 : Hid (Vr w3 w1.heap.size Z3) := H4.out.below B9 (range_lt H4.out.1 (Nat.succ_pos _)); have BB : Hid (Below w.heap.size w w3) := BB.out.trans (B9.mono BB.out.size); clear hb0_0 hb0_1 hb0_2 hb0_3 hb0_4 hb0_5; have hb0_0 := HB0.out.cell 0 _ rfl; have hb0_1 := HB0.out.cell 1 _ rfl; have hb0_2 := HB0.out.cell 2 _ rfl; have hb0_3 := HB0.out.cell 3 _ rfl; have hb0_4 := HB0.out.cell 4 _ rfl; have hb0_5 := HB0.out.cell 5 _ rfl; clear B9; clear t2; have t3 : (1 : Nat) = 1 := rfl)
    | (have q1 := t1; (with_reducible refine at_alloc ?_); refine new_lawN _ Z3 zero_held (hdl_nob _ _ _ _ _) ?_; intro w2 X9 N9 B9; have LT_HB0_H4 : Hid (w.heap.size < w1.heap.size) := range_lt HB0.out.1 (Nat.succ_pos _); have LE_H4 : Hid (w.heap.size ≤ w1.heap.size) := BB.out.size; have HB0 : Hid (Vr w2 w.heap.size [.int .i64 g0, .int .i64 g1, .int .i64 (S : Int), .int .i64 g3, .int .i64 g4, .int .i64 g5]) := HB0.out.below B9 (range_lt HB0.out.1 (Nat.succ_pos _)); have H4 : Hid (Vr w2 w1.heap.size Z3) := X9; have NB_H4 : Hid (NoB w2 w1.heap.size) := N9; have BB : Hid (Below w.heap.size w w2) := BB.out.trans (B9.mono BB.out.size); clear hb0_0 hb0_1 hb0_2 hb0_3 hb0_4 hb0_5; have hb0_0 := HB0.out.cell 0 _ rfl; have hb0_1 := HB0.out.cell 1 _ rfl; have hb0_2 := HB0.out.cell 2 _ rfl; have hb0_3 := HB0.out.cell 3 _ rfl; have hb0_4 := HB0.out.cell 4 _ rfl; have hb0_5 := HB0.out.cell 5 _ rfl; clear X9 N9 B9; clear t1; have t2 : (1 : Nat) = 1 := rfl)
    | (have q0 := t0; refine box_lawC _ [.int .i64 g0, .int .i64 g1, .int .i64 (S : Int), .int .i64 g3, .int .i64 g4, .int .i64 g5] rfl ?_; intro w1 X9 B9 l9; have HB0 : Hid (Vr w1 w.heap.size [.int .i64 g0, .int .i64 g1, .int .i64 (S : Int), .int .i64 g3, .int .i64 g4, .int .i64 g5]) := X9; have BB : Hid (Below w.heap.size w w1) := B9; have hb0_0 := HB0.out.cell 0 _ rfl; have hb0_1 := HB0.out.cell 1 _ rfl; have hb0_2 := HB0.out.cell 2 _ rfl; have hb0_3 := HB0.out.cell 3 _ rfl; have hb0_4 := HB0.out.cell 4 _ rfl; have hb0_5 := HB0.out.cell 5 _ rfl; clear X9 B9 l9; clear t0; have t1 : (1 : Nat) = 1 := rfl))
  exact bodyPost_ret (v := .agg Z3.toArray) (results_c rfl _ _ w1.heap.size _ rowy_held rfl H4.out.1) rfl ⟨rfl, BB.out⟩

set_option maxHeartbeats 8000000 in
theorem rhold_in (g0 g1 g3 g4 g5 : Int) (S : Nat) (b off n cap : Nat) (ls : List (List Int)) (w : World) (hr : ge.Rt [g0, g1, (S : Int), g3, g4, g5]) (hn' : nc S ≤ n) (hall : ∀ i, i < n → ∃ z, w.cell? ⟨b, off + i, none⟩ = some z ∧ Byt w z (ls.getD i [])) (hlen : n = ls.length) :
    Calls Tryd.prog 15 #[.agg (ints .i64 [g0, g1, (S : Int), g3, g4, g5]), .slice (some ⟨b, off, none⟩) n cap] w fun x w' => RHoldIs S ls x w' ∧ Below w.heap.size w w' := by
  have ⟨s1, s2⟩ := rt_sec hr
  have hn := nc_le s1 s2
  have SC : Hid (∀ w0, Calls Tryd.prog 25 #[.agg (ints .i64 [g0, g1, (S : Int), g3, g4, g5])] w0 fun x w' => x = .returned (.int .i64 (nc S : Int)) ∧ Below w0.heap.size w0 w') := fun w0 => rchunks_nc hr w0
  have SH : Hid (∀ {k : Nat} w0, Calls Tryd.prog 28 #[.agg (ints .i64 [g0, g1, (S : Int), g3, g4, g5]), .int .i64 (k : Int), .int .u64 (kgen S ls)] w0 fun x w' => x = .returned (.agg (hv 4 (k : Int) 0 (nc S : Int) (kgen S ls) 0).toArray) ∧ Below w0.heap.size w0 w') := fun {k} w0 => rhead_any g0 g1 g3 g4 g5 S k (kgen S ls) w0 hr
  have HA : Hid (∀ i, i < n → ∃ z, (∀ w', Below w.heap.size w w' → w'.cell? ⟨b, off + i, none⟩ = some z) ∧ Byt w z (ls.getD i [])) := fun i hi => by
    obtain ⟨z, h1, h2⟩ := hall i hi
    exact ⟨z, fun w' q => by rw [q.cell (World.block_lt_of_cell? _ _ h1)]; exact h1, h2⟩
  have HX : Hid (Khd S ls ↔ (∀ i, i < nc S → Kpg S (kgen S ls) i (ls.getD i [])) ∧ Kcm S (ls.getD (nc S - 1) [])) := ⟨fun h => h.2, fun h => ⟨by omega, h⟩⟩
  have HKr : Hid (krec S ls = (parts (fun j => (ls.getD j []).take S) (nc S)).take 624) := rfl
  have HG0 : Hid (kgen S ls = qe ((ls.getD 0 []).drop S)) := rfl
  have HM : Hid (624 ≤ nc S * S) := hn.2.2.1
  have N1 : Hid (IntKind.i64.wrap ((nc S : Int) - 1) = ((nc S - 1 : Nat) : Int)) := (by show _ = _; rw [IntKind.wrap_i64]; omega)
  have S88 : Hid (IntKind.i64.wrap ((S : Int) + 88) = (S : Int) + 88) := wrap_small ⟨by omega, by omega⟩
  have n2 : ¬ ((n : Int) < (nc S : Int)) := by omega
  have n20 : nc S ≤ 20 := hn.2.1
  have n01 : 1 ≤ nc S := hn.1
  have nn : nc S ≤ n := hn'
  have s4 : S ≤ 4096 := s2
  have EM : Hid (nc S * S ≤ 5000) := (by show _ ≤ _; omega)
  obtain ⟨N, eN⟩ : ∃ N, nc S = N := ⟨_, rfl⟩
  rw [eN] at SC SH HX HKr HM N1 n2 n20 n01 nn EM
  have EK : Hid (nc S = N) := eN
  obtain ⟨KG, eG⟩ : ∃ G, kgen S ls = G := ⟨_, rfl⟩
  rw [eG] at SH HX HG0
  have EG : Hid (kgen S ls = KG) := eG
  obtain ⟨F, eF⟩ : ∃ F : Nat → List Int, F = fun j => (ls.getD j []).take S := ⟨_, rfl⟩
  rw [← eF] at HKr
  have EF : Hid (∀ j, F j = (ls.getD j []).take S) := fun j => by rw [eF]
  clear hr hall hn hn' s1 s2 eN eG eF hlen
  have t0 : (0 : Nat) = 0 := rfl
  go_enter Tryd.func15, Tryd.ntmps15
  go_wp2_with (first
    | (have q5 := t5; (with_reducible refine at_store ?_); refine store_lawC _ (hdl 0 (.slice none 0 0) true) w3.heap.size 0 rfl rfl H6.out.2 rowy_held.2 (hdl_one _ _ _ _ _) ?_; intro w5 E9 R9 T9 B9; have K9 : ∀ k, k ≠ w3.heap.size → w5.heap[k]? = w4.heap[k]? := (by rw [E9.out]; exact fun k hk => heap_cells _ _ _ _ k hk); have HB0 : Hid (Vr w5 w.heap.size [.int .i64 g0, .int .i64 g1, .int .i64 (S : Int), .int .i64 g3, .int .i64 g4, .int .i64 g5]) := HB0.out.heap (K9 _ (Nat.ne_of_lt LT_HB0_H6.out)); have NB_H4 : Hid (NoB w5 w1.heap.size) := NB_H4.out.heap (K9 _ (Nat.ne_of_lt LT_H4_H6.out)); have H4 : Hid (Vr w5 w1.heap.size Z3) := H4.out.heap (K9 _ (Nat.ne_of_lt LT_H4_H6.out)); have NB_H6 : Hid (NoB w5 w3.heap.size) := (by rw [E9.out]; exact NB_H6.out.set H6.out rfl (hdl_nob _ _ _ _ _)); have H6 : Hid (Vr w5 w3.heap.size (hdl 0 (.slice none 0 0) true)) := ⟨R9, T9⟩; have BB : Hid (Below w.heap.size w w5) := BB.out.trans (B9.mono LE_H6.out); clear hb0_0 hb0_1 hb0_2 hb0_3 hb0_4 hb0_5; have hb0_0 := HB0.out.cell 0 _ rfl; have hb0_1 := HB0.out.cell 1 _ rfl; have hb0_2 := HB0.out.cell 2 _ rfl; have hb0_3 := HB0.out.cell 3 _ rfl; have hb0_4 := HB0.out.cell 4 _ rfl; have hb0_5 := HB0.out.cell 5 _ rfl; clear E9 R9 T9 B9 K9; clear t5; have t6 : (1 : Nat) = 1 := rfl)
    | (have q4 := t4; (with_reducible refine at_alloc ?_); refine new_lawN _ Z3 zero_held (hdl_nob _ _ _ _ _) ?_; intro w4 X9 N9 B9; have LT_HB0_H6 : Hid (w.heap.size < w3.heap.size) := range_lt HB0.out.1 (Nat.succ_pos _); have LT_H4_H6 : Hid (w1.heap.size < w3.heap.size) := range_lt H4.out.1 (Nat.succ_pos _); have LE_H6 : Hid (w.heap.size ≤ w3.heap.size) := BB.out.size; have HB0 : Hid (Vr w4 w.heap.size [.int .i64 g0, .int .i64 g1, .int .i64 (S : Int), .int .i64 g3, .int .i64 g4, .int .i64 g5]) := HB0.out.below B9 (range_lt HB0.out.1 (Nat.succ_pos _)); have NB_H4 : Hid (NoB w4 w1.heap.size) := NB_H4.out.heap (B9.block _ (range_lt H4.out.1 (Nat.succ_pos _))); have H4 : Hid (Vr w4 w1.heap.size Z3) := H4.out.below B9 (range_lt H4.out.1 (Nat.succ_pos _)); have H6 : Hid (Vr w4 w3.heap.size Z3) := X9; have NB_H6 : Hid (NoB w4 w3.heap.size) := N9; have BB : Hid (Below w.heap.size w w4) := BB.out.trans (B9.mono BB.out.size); clear hb0_0 hb0_1 hb0_2 hb0_3 hb0_4 hb0_5; have hb0_0 := HB0.out.cell 0 _ rfl; have hb0_1 := HB0.out.cell 1 _ rfl; have hb0_2 := HB0.out.cell 2 _ rfl; have hb0_3 := HB0.out.cell 3 _ rfl; have hb0_4 := HB0.out.cell 4 _ rfl; have hb0_5 := HB0.out.cell 5 _ rfl; clear X9 N9 B9; clear t4; have t5 : (1 : Nat) = 1 := rfl)
    | (have q3 := t3; refine build_law _ rfl 39 _ rfl (.agg (hdl 0 (.slice none 0 0) true).toArray) (by kernel_rfl) ?_; clear t3; have t4 : (1 : Nat) = 1 := rfl)
    | (have q2 := t2; go_at_call 25; refine (SC.out w2).mono ?_; rintro e9 w3 ⟨rfl, B9⟩; have HB0 : Hid (Vr w3 w.heap.size [.int .i64 g0, .int .i64 g1, .int .i64 (S : Int), .int .i64 g3, .int .i64 g4, .int .i64 g5]) := HB0.out.below B9 (range_lt HB0.out.1 (Nat.succ_pos _)); have NB_H4 : Hid (NoB w3 w1.heap.size) := NB_H4.out.heap (B9.block _ (range_lt H4.out.1 (Nat.succ_pos _))); have H4 : Hid (Vr w3 w1.heap.size Z3) := H4.out.below B9 (range_lt H4.out.1 (Nat.succ_pos _)); have BB : Hid (Below w.heap.size w w3) := BB.out.trans (B9.mono BB.out.size); clear hb0_0 hb0_1 hb0_2 hb0_3 hb0_4 hb0_5; have hb0_0 := HB0.out.cell 0 _ rfl; have hb0_1 := HB0.out.cell 1 _ rfl; have hb0_2 := HB0.out.cell 2 _ rfl; have hb0_3 := HB0.out.cell 3 _ rfl; have hb0_4 := HB0.out.cell 4 _ rfl; have hb0_5 := HB0.out.cell 5 _ rfl; clear B9; clear t2; have t3 : (1 : Nat) = 1 := rfl)
    | (have q1 := t1; (with_reducible refine at_alloc ?_); refine new_lawN _ Z3 zero_held (hdl_nob _ _ _ _ _) ?_; intro w2 X9 N9 B9; have LT_HB0_H4 : Hid (w.heap.size < w1.heap.size) := range_lt HB0.out.1 (Nat.succ_pos _); have LE_H4 : Hid (w.heap.size ≤ w1.heap.size) := BB.out.size; have HB0 : Hid (Vr w2 w.heap.size [.int .i64 g0, .int .i64 g1, .int .i64 (S : Int), .int .i64 g3, .int .i64 g4, .int .i64 g5]) := HB0.out.below B9 (range_lt HB0.out.1 (Nat.succ_pos _)); have H4 : Hid (Vr w2 w1.heap.size Z3) := X9; have NB_H4 : Hid (NoB w2 w1.heap.size) := N9; have BB : Hid (Below w.heap.size w w2) := BB.out.trans (B9.mono BB.out.size); clear hb0_0 hb0_1 hb0_2 hb0_3 hb0_4 hb0_5; have hb0_0 := HB0.out.cell 0 _ rfl; have hb0_1 := HB0.out.cell 1 _ rfl; have hb0_2 := HB0.out.cell 2 _ rfl; have hb0_3 := HB0.out.cell 3 _ rfl; have hb0_4 := HB0.out.cell 4 _ rfl; have hb0_5 := HB0.out.cell 5 _ rfl; clear X9 N9 B9; clear t1; have t2 : (1 : Nat) = 1 := rfl)
    | (have q0 := t0; refine box_lawC _ [.int .i64 g0, .int .i64 g1, .int .i64 (S : Int), .int .i64 g3, .int .i64 g4, .int .i64 g5] rfl ?_; intro w1 X9 B9 l9; have HB0 : Hid (Vr w1 w.heap.size [.int .i64 g0, .int .i64 g1, .int .i64 (S : Int), .int .i64 g3, .int .i64 g4, .int .i64 g5]) := X9; have BB : Hid (Below w.heap.size w w1) := B9; have hb0_0 := HB0.out.cell 0 _ rfl; have hb0_1 := HB0.out.cell 1 _ rfl; have hb0_2 := HB0.out.cell 2 _ rfl; have hb0_3 := HB0.out.cell 3 _ rfl; have hb0_4 := HB0.out.cell 4 _ rfl; have hb0_5 := HB0.out.cell 5 _ rfl; clear X9 B9 l9; clear t0; have t1 : (1 : Nat) = 1 := rfl))
  have LT0 : Hid (w.heap.size < w3.heap.size) := LT_HB0_H6.out
  have LT4 : Hid (w1.heap.size < w3.heap.size) := LT_H4_H6.out
  have LE4 : Hid (w.heap.size ≤ w1.heap.size) := LE_H4.out
  clear LT_HB0_H6 LT_H4_H6 LE_H4 LE_H6 LT_HB0_H4 hb0_0 hb0_1 hb0_2 hb0_3 hb0_4 hb0_5
  obtain ⟨c4, e4⟩ : ∃ c, c = w1.heap.size := ⟨_, rfl⟩
  obtain ⟨c6, e6⟩ : ∃ c, c = w3.heap.size := ⟨_, rfl⟩
  rw [← e6] at LT0 LT4 H6 NB_H6 ⊢
  rw [← e4] at LT4 LE4 H4 NB_H4 ⊢
  clear e4 e6
  go_loopw [7] (fun i wr => ∃ (k : Nat) (G0 : Int) (ro : Option Addr) (rn rc : Nat), k ≤ N ∧ i = .int .i64 (k : Int) ∧ Vr wr c6 (hdl G0 (.slice ro rn rc) true) ∧ NoB wr c6 ∧ Vr wr w.heap.size [.int .i64 g0, .int .i64 g1, .int .i64 (S : Int), .int .i64 g3, .int .i64 g4, .int .i64 g5] ∧ (Vr wr c4 Z3 ∧ NoB wr c4) ∧ Byt wr (.slice ro rn rc) (parts F k) ∧ (0 < k → G0 = KG) ∧ ((∀ j, j < k → Kpg S KG j (ls.getD j [])) ∧ (k = N → Kcm S (ls.getD (N - 1) []))) ∧ Below w.heap.size w wr) (fun i _ => N - (intOf i).toNat)
  case atStart => exact ⟨0, _, _, _, _, Nat.zero_le _, rfl, H6.out, NB_H6.out, HB0.out, ⟨H4.out, NB_H4.out⟩, Byt.nil _, fun h => absurd h (Nat.lt_irrefl _), ⟨fun j hj => absurd hj (Nat.not_lt_zero _), fun h => absurd h (by omega)⟩, BB.out⟩
  case round =>
    obtain ⟨k, G0, ro, rn, rc, hk, rfl, a1, a2, a3, ⟨a4, a5⟩, a6, a7, ⟨a8, a9⟩, a10⟩ := hrel
    clear H6 NB_H6 HB0 H4 NB_H4 BB
    have H6 : Hid (Vr wr c6 (hdl G0 (.slice ro rn rc) true)) := a1
    have NB_H6 : Hid (NoB wr c6) := a2
    have HB0 : Hid (Vr wr w.heap.size [.int .i64 g0, .int .i64 g1, .int .i64 (S : Int), .int .i64 g3, .int .i64 g4, .int .i64 g5]) := a3
    have H4 : Hid (Vr wr c4 Z3) := a4
    have NB_H4 : Hid (NoB wr c4) := a5
    have HY : Hid (Byt wr (.slice ro rn rc) (parts F k)) := a6
    have GK : Hid (0 < k → G0 = KG) := a7
    have HJ : Hid (∀ j, j < k → Kpg S KG j (ls.getD j [])) := a8
    have HC9 : Hid (k = N → Kcm S (ls.getD (N - 1) [])) := a9
    have BB : Hid (Below w.heap.size w wr) := a10
    clear a1 a2 a3 a4 a5 a6 a7 a8 a9 a10
    by_cases hlt : k < N
    · have lk : (k : Int) < (N : Int) := by omega
      obtain ⟨z, hz, hy⟩ := HA.out k (by omega)
      obtain ⟨zn, en⟩ : ∃ q, (ls.getD k []).length = q := ⟨_, rfl⟩
      obtain ⟨zo, zc, rfl⟩ := byt_form hy en
      have HZ : Hid (∀ w', Below wr.heap.size wr w' → w'.cell? ⟨b, off + k, none⟩ = some (.slice zo zn zc)) := fun w' q => hz w' (BB.out.trans (q.mono BB.out.size))
      have HZB : Hid (Byt wr (.slice zo zn zc) (ls.getD k [])) := hy.below BB.out
      have KN : Hid (k < n) := (by show k < n; omega)
      have EN : Hid ((ls.getD k []).length = zn) := en
      clear hz hy en
      by_cases hl : zn = S + 88
      · have ZB0 : Hid (((zn : Int) != (S : Int) + 88) = false) := (by show _ = _; rw [hl]; simp)
        by_cases ht : Tl ((ls.getD k []).drop S)
        · by_cases hh : qk ((ls.getD k []).drop S) = 4 ∧ qn ((ls.getD k []).drop S) = (k : Int) ∧ he.qc ((ls.getD k []).drop S) = 0 ∧ ql ((ls.getD k []).drop S) = (N : Int) ∧ qe ((ls.getD k []).drop S) = KG ∧ qt ((ls.getD k []).drop S) = 0
          · by_cases hkl : k = N - 1
            · by_cases hc : ((ls.getD k []).drop S).drop 80 = List.replicate 8 0
              · have SB : Hid (∀ w0, Below wr.heap.size wr w0 → Calls Tryd.prog 32 #[.agg (ints .i64 [g0, g1, (S : Int), g3, g4, g5]), .slice zo zn zc] w0 fun x w' => ∃ po pc uo uc, x = .returned (.agg (pg10 (qk ((ls.getD k []).drop S)) (qn ((ls.getD k []).drop S)) (he.qc ((ls.getD k []).drop S)) (ql ((ls.getD k []).drop S)) (qe ((ls.getD k []).drop S)) (qt ((ls.getD k []).drop S)) (.slice po S pc) (.slice uo 32 uc) (decide (((ls.getD k []).drop S).drop 80 = List.replicate 8 0)) true).toArray) ∧ Byt w' (.slice po S pc) ((ls.getD k []).take S) ∧ Below w0.heap.size w0 w') := fun w0 q => (rpread_yes g0 g1 g3 g4 g5 S _ _ w0 (HZB.out.below q) (by rw [EN.out]; exact hl) ht).mono fun x w' ⟨po, pc, uo, uc, h1, h2, _, h4⟩ => ⟨po, pc, uo, uc, h1, h2, h4⟩
                have K0 : Hid (k = 0 → qe ((ls.getD k []).drop S) = KG) := fun h => (by rw [h]; exact HG0.out.symm)
                have HQ : Hid ((!decide (qk ((ls.getD k []).drop S) = 4 ∧ qn ((ls.getD k []).drop S) = (k : Int) ∧ he.qc ((ls.getD k []).drop S) = 0 ∧ ql ((ls.getD k []).drop S) = (N : Int) ∧ qe ((ls.getD k []).drop S) = KG ∧ qt ((ls.getD k []).drop S) = 0)) = false) := (by show _ = _; rw [decide_eq_true hh]; rfl)
                have KK : Hid (Kpg S KG k (ls.getD k [])) := ⟨by rw [EN.out]; exact hl, ht, hh.1, hh.2.1, hh.2.2.1, by rw [EK.out]; exact hh.2.2.2.1, hh.2.2.2.2.1, hh.2.2.2.2.2⟩
                have JN : Hid (∀ j, j < k + 1 → Kpg S KG j (ls.getD j [])) := fun j hj => (by
                  by_cases e : j = k
                  · rw [e]; exact KK.out
                  · exact HJ.out j (by omega))
                have KC : Hid (k + 1 = N → Kcm S (ls.getD (N - 1) [])) := fun _ => (by rw [show N - 1 = k by omega]; exact hc)
                have KL : Hid (((k : Int) == ((N - 1 : Nat) : Int)) = true) := beq_iff_eq.2 (by omega)
                have hd9 : decide (((ls.getD k []).drop S).drop 80 = List.replicate 8 0) = true := decide_eq_true hc
                rw [hd9] at SB
                clear hd9 hc hkl
                have PL : Hid ((parts F k).length ≤ 1099511627776 ∧ ((ls.getD k []).take S).length ≤ 1099511627776) := (by
                  have e : (parts F k).length = k * S := parts_len (n := k) (fun i hi => by rw [EF.out, List.length_take, (HJ.out i hi).1]; omega) k (Nat.le_refl _)
                  have := mul_small (k := k) (S := S) (by omega) s4
                  have : ((ls.getD k []).take S).length ≤ S := by rw [List.length_take]; omega
                  exact ⟨by omega, by omega⟩)
                have QE : Hid (parts F k ++ (ls.getD k []).take S = parts F (k + 1)) := (by show _ = _; rw [← EF.out]; rfl)
                have QA : Hid (AllB (parts F k ++ (ls.getD k []).take S)) := allB_app HY.out.all (allB_take HZB.out.all S)
                generalize qk ((ls.getD k []).drop S) = kd9 at SB HQ
                generalize qn ((ls.getD k []).drop S) = n9 at SB HQ
                generalize he.qc ((ls.getD k []).drop S) = c9 at SB HQ
                generalize ql ((ls.getD k []).drop S) = l9 at SB HQ
                generalize qe ((ls.getD k []).drop S) = e9 at SB HQ K0
                generalize qt ((ls.getD k []).drop S) = t9 at SB HQ
                generalize (ls.getD k []).take S = Q9 at SB PL QE QA
                clear hh ht hl
                have ZB : Hid (((zn : Int) != (S : Int) + 88) = false) := ZB0.out
                go_wp2
                refine wp_region_held_drew (S := fun w' => Below wr.heap.size wr w') (by kernel_rfl) (Below.refl _ _).drew (fun hS => ?_)
                obtain ⟨x1, hx0⟩ : ∃ x, x = wr.drew := ⟨_, rfl⟩
                rw [← hx0] at hS  ⊢
                clear hx0
                refine take_lawH 0 (some 22) (.slice (some ⟨b, off, none⟩) n cap) rfl rfl (by kernel_rfl) (by kernel_rfl) (by kernel_rfl) (fun _ _ _ h => h) (Or.inl ⟨by rfl, fun w' hw' => by rfl⟩) hS ?_
                simp only [Act.put, List.setIfInBounds_toArray, List.set_cons_zero, List.set_cons_succ]
                refine take_lawH 1 (some 23) (.int .i64 (k : Int)) rfl rfl (by kernel_rfl) (by kernel_rfl) (by kernel_rfl) (fun _ _ _ h => h) (Or.inl ⟨by rfl, fun w' hw' => by rfl⟩) hS ?_
                simp only [Act.put, List.setIfInBounds_toArray, List.set_cons_zero, List.set_cons_succ]
                refine take_lawH 2 (some 24) (.pointer (some ⟨b, off + k, none⟩)) rfl rfl (by kernel_rfl) (by kernel_rfl) (by kernel_rfl) (fun _ _ _ h => h) (Or.inl ⟨by rfl, fun w' hw' => by exact exec_idxR (.tmp 22) (.tmp 23) rfl b off n cap k rfl rfl KN.out _⟩) hS ?_
                simp only [Act.put, List.setIfInBounds_toArray, List.set_cons_zero, List.set_cons_succ]
                refine take_lawH 3 (some 25) (.slice zo zn zc) rfl rfl (by kernel_rfl) (by kernel_rfl) (by kernel_rfl) (fun _ _ _ h => h) (Or.inl ⟨by rfl, fun w' hw' => by exact exec_loadN 24 (.tmp 24) rfl _ rfl _ _ (load_one one_bytes (HZ.out _ hw'))⟩) hS ?_
                simp only [Act.put, List.setIfInBounds_toArray, List.set_cons_zero, List.set_cons_succ]
                refine take_lawH 4 (some 26) (.int .i64 (zn : Int)) rfl rfl (by kernel_rfl) (by kernel_rfl) (by kernel_rfl) (fun _ _ _ h => h) (Or.inl ⟨by rfl, fun w' hw' => by exact exec_lenB (.tmp 25) rfl zo zn zc rfl _⟩) hS ?_
                simp only [Act.put, List.setIfInBounds_toArray, List.set_cons_zero, List.set_cons_succ]
                refine take_lawH 5 (some 27) (.pointer (some ⟨w.heap.size, 2, none⟩)) rfl rfl (by kernel_rfl) (by kernel_rfl) (by kernel_rfl) (fun _ _ _ h => h) (Or.inl ⟨by rfl, fun w' hw' => by go_simp⟩) hS ?_
                simp only [Act.put, List.setIfInBounds_toArray, List.set_cons_zero, List.set_cons_succ]
                refine take_lawH 6 (some 28) (.int .i64 (S : Int)) rfl rfl (by kernel_rfl) (by kernel_rfl) (by kernel_rfl) (fun _ _ _ h => h) (Or.inl ⟨by rfl, fun w' hw' => by exact exec_loadN 3 (.tmp 27) rfl _ rfl _ _ (ld_int ((HB0.out.below hw' (range_lt HB0.out.1 (Nat.succ_pos _))).cell 2 _ rfl))⟩) hS ?_
                simp only [Act.put, List.setIfInBounds_toArray, List.set_cons_zero, List.set_cons_succ]
                refine take_lawH 7 (some 29) (.int .i64 ((S : Int) + 88)) rfl rfl (by kernel_rfl) (by kernel_rfl) (by kernel_rfl) (fun _ _ _ h => h) (Or.inl ⟨by rfl, fun w' hw' => by exact exec_add (.tmp 28) (.const (.int .i64 88)) rfl (S : Int) 88 _ rfl rfl S88.out⟩) hS ?_
                simp only [Act.put, List.setIfInBounds_toArray, List.set_cons_zero, List.set_cons_succ]
                refine take_lawH 8 (some 30) (.bool false) rfl rfl (by kernel_rfl) (by kernel_rfl) (by kernel_rfl) (fun _ _ _ h => h) (Or.inl ⟨by rfl, fun w' hw' => by exact exec_neqI (.tmp 26) (.tmp 29) rfl (zn : Int) ((S : Int) + 88) rfl rfl false ZB.out _⟩) hS ?_
                simp only [Act.put, List.setIfInBounds_toArray, List.set_cons_zero, List.set_cons_succ]
                refine wpAnyH_done (by kernel_rfl) ?_ _
                obtain ⟨wx, ex⟩ : ∃ q, q = x1 := ⟨_, rfl⟩
                rw [← ex] at hS ⊢
                clear ex
                have NB_H4 : Hid (NoB wx c4) := NB_H4.out.heap (hS.block _ (range_lt H4.out.1 (Nat.succ_pos _)))
                have H4 : Hid (Vr wx c4 Z3) := H4.out.below hS (range_lt H4.out.1 (Nat.succ_pos _))
                have HB0 : Hid (Vr wx w.heap.size [.int .i64 g0, .int .i64 g1, .int .i64 (S : Int), .int .i64 g3, .int .i64 g4, .int .i64 g5]) := HB0.out.below hS (range_lt HB0.out.1 (Nat.succ_pos _))
                have NB_H6 : Hid (NoB wx c6) := NB_H6.out.heap (hS.block _ (range_lt H6.out.1 (Nat.succ_pos _)))
                have H6 : Hid (Vr wx c6 (hdl G0 (.slice ro rn rc) true)) := H6.out.below hS (range_lt H6.out.1 (Nat.succ_pos _))
                have HY : Hid (Byt wx (.slice ro rn rc) (parts F k)) := HY.out.below hS
                have BX : Hid (Below wr.heap.size wr wx) := hS
                have BB : Hid (Below w.heap.size w wx) := BB.out.trans (hS.mono BB.out.size)
                clear hS
                go_wp2
                have t1 : (1 : Nat) = 1 := rfl
                go_cut [8] (fun r8 wc => ∃ (gv : Nat) (po : Option Addr) (pc : Nat) (uo : Option Addr) (uc : Nat), r8 = .pointer (some ⟨gv, 0, none⟩) ∧ Vr wc gv (pg10 kd9 n9 c9 l9 e9 t9 (.slice po S pc) (.slice uo 32 uc) true true) ∧ Byt wc (.slice po S pc) Q9 ∧ wx.heap.size ≤ gv ∧ Below wx.heap.size wx wc)
                case first =>
                  refine wp_region_held_drew (S := fun w' => Below wx.heap.size wx w') (by kernel_rfl) (Below.refl _ _).drew (fun hS => ?_)
                  obtain ⟨y1, hx0⟩ : ∃ x, x = wx.drew := ⟨_, rfl⟩
                  rw [← hx0] at hS  ⊢
                  clear hx0
                  refine take_lawH 0 (some 32) (.agg ([.int .i64 g0, .int .i64 g1, .int .i64 (S : Int), .int .i64 g3, .int .i64 g4, .int .i64 g5] : List Value).toArray) rfl rfl (by kernel_rfl) (by kernel_rfl) (by kernel_rfl) (fun _ _ _ h => h) (Or.inl ⟨by rfl, fun w' hw' => by exact exec_loadN 23 (.tmp 2) rfl _ rfl _ _ (load_cells rowy_geo (HB0.out.below hw' (range_lt HB0.out.1 (Nat.succ_pos _))).1)⟩) hS ?_
                  simp only [Act.put, List.setIfInBounds_toArray, List.set_cons_zero, List.set_cons_succ]
                  refine take_lawH 1 (some 33) (.slice (some ⟨b, off, none⟩) n cap) rfl rfl (by kernel_rfl) (by kernel_rfl) (by kernel_rfl) (fun _ _ _ h => h) (Or.inl ⟨by rfl, fun w' hw' => by rfl⟩) hS ?_
                  simp only [Act.put, List.setIfInBounds_toArray, List.set_cons_zero, List.set_cons_succ]
                  refine take_lawH 2 (some 34) (.int .i64 (k : Int)) rfl rfl (by kernel_rfl) (by kernel_rfl) (by kernel_rfl) (fun _ _ _ h => h) (Or.inl ⟨by rfl, fun w' hw' => by rfl⟩) hS ?_
                  simp only [Act.put, List.setIfInBounds_toArray, List.set_cons_zero, List.set_cons_succ]
                  refine take_lawH 3 (some 35) (.pointer (some ⟨b, off + k, none⟩)) rfl rfl (by kernel_rfl) (by kernel_rfl) (by kernel_rfl) (fun _ _ _ h => h) (Or.inl ⟨by rfl, fun w' hw' => by exact exec_idxR (.tmp 33) (.tmp 34) rfl b off n cap k rfl rfl KN.out _⟩) hS ?_
                  simp only [Act.put, List.setIfInBounds_toArray, List.set_cons_zero, List.set_cons_succ]
                  refine take_lawH 4 (some 36) (.slice zo zn zc) rfl rfl (by kernel_rfl) (by kernel_rfl) (by kernel_rfl) (fun _ _ _ h => h) (Or.inl ⟨by rfl, fun w' hw' => by exact exec_loadN 24 (.tmp 35) rfl _ rfl _ _ (load_one one_bytes (HZ.out _ (BX.out.trans (hw'.mono BX.out.size))))⟩) hS ?_
                  simp only [Act.put, List.setIfInBounds_toArray, List.set_cons_zero, List.set_cons_succ]
                  refine wpAnyH_ready (rs := [5, 6]) (by kernel_rfl) (by simp) ?_
                  refine AllReadyH.cons rfl (fun K hK => ?_) (AllReadyH.cons rfl (fun K hK => ?_) AllReadyH.nil)
                  · refine step_callW _ (by rfl) (some 37) rfl 32 #[.tmp 32, .tmp 36] #[23, 24] rfl (fun q w' => by rfl) #[.agg ([.int .i64 g0, .int .i64 g1, .int .i64 (S : Int), .int .i64 g3, .int .i64 g4, .int .i64 g5] : List Value).toArray, .slice zo zn zc] (by simp only [List.map_toArray, List.map_cons, List.map_nil]; rfl) (fun u w' => (∃ po pc uo uc, u = .agg (pg10 kd9 n9 c9 l9 e9 t9 (.slice po S pc) (.slice uo 32 uc) true true).toArray ∧ Byt w' (.slice po S pc) Q9) ∧ Below y1.heap.size y1 w') ?_ ?_
                    · exact (SB.out y1 (BX.out.trans (hS.mono BX.out.size))).mono fun e w' ⟨po, pc, uo, uc, h1, h2, h3⟩ => ⟨_, h1, ⟨po, pc, uo, uc, rfl, h2⟩, h3⟩
                    rintro _ y2 ⟨⟨po, pc, uo, uc, rfl, y9⟩, hb⟩
                    have HP : Hid (Byt y2 (.slice po S pc) Q9) := y9
                    clear y9
                    have hS : Below wx.heap.size wx y2 := hS.trans (hb.mono hS.size)
                    clear hb
                    refine hK.out _ _ hS (fun _ => ?_)
                    simp only [Act.put, List.setIfInBounds_toArray, List.set_cons_zero, List.set_cons_succ]
                    clear hK K
                    refine wpAnyH_ready (rs := [6]) (by kernel_rfl) (by simp) ?_
                    refine AllReadyH.cons rfl (fun K hK => ?_) AllReadyH.nil
                    refine step_newN _ rfl (some 8) rfl 70 rfl Z10 zero_rpage (pg10_nob _ _ _ _ _ _ _ _ _ _ _ _ _ _) ?_
                    intro y3 v9 nb9 hb
                    have HP : Hid (Byt y3 (.slice po S pc) Q9) := HP.out.below hb
                    have HV : Hid (Vr y3 y2.heap.size Z10) := v9
                    have NV : Hid (NoB y3 y2.heap.size) := nb9
                    have LV : Hid (wx.heap.size ≤ y2.heap.size) := hS.size
                    have hS : Below wx.heap.size wx y3 := hS.trans (hb.mono hS.size)
                    clear v9 nb9 hb
                    obtain ⟨gv, hg9⟩ : ∃ g, g = y2.heap.size := ⟨_, rfl⟩
                    rw [← hg9] at HV NV LV ⊢
                    clear hg9
                    refine hK.out _ _ hS (fun _ => ?_)
                    simp only [Act.put, List.setIfInBounds_toArray, List.set_cons_zero, List.set_cons_succ]
                    clear hK K
                    refine wpAnyH_ready (rs := [7]) (by kernel_rfl) (by simp) ?_
                    refine AllReadyH.cons rfl (fun K hK => ?_) AllReadyH.nil
                    refine step_storeN _ rfl none rfl (.tmp 8) (.tmp 37) 70 rfl gv Z10 (pg10 kd9 n9 c9 l9 e9 t9 (.slice po S pc) (.slice uo 32 uc) true true) rfl rfl HV.out NV.out rfl rowy_rpage.2 (pg10_one _ _ _ _ _ _ _ _ _ _ _ _ _ _) (pg10_nob _ _ _ _ _ _ _ _ _ _ _ _ _ _) ?_
                    intro y4 v9 nb9 B9 k9
                    have HP : Hid (Byt y4 (.slice po S pc) Q9) := byt_nob HP.out NV.out k9
                    have HV : Hid (Vr y4 gv (pg10 kd9 n9 c9 l9 e9 t9 (.slice po S pc) (.slice uo 32 uc) true true)) := v9
                    have hS : Below wx.heap.size wx y4 := hS.trans (B9.mono LV.out)
                    clear v9 nb9 B9 k9
                    refine hK.out _ _ hS (fun _ => ?_)
                    simp only [Act.put]
                    clear hK K
                    refine wpAnyH_done (by kernel_rfl) ?_ _
                    go_wp2_with fail
                    go_meet
                    exact ⟨gv, po, pc, uo, uc, rfl, HV.out, HP.out, LV.out, hS⟩
                  · refine step_newN _ rfl (some 8) rfl 70 rfl Z10 zero_rpage (pg10_nob _ _ _ _ _ _ _ _ _ _ _ _ _ _) ?_
                    intro y5 v9 nb9 hb
                    have HV : Hid (Vr y5 y1.heap.size Z10) := v9
                    have NV : Hid (NoB y5 y1.heap.size) := nb9
                    have LV : Hid (wx.heap.size ≤ y1.heap.size) := hS.size
                    have hS : Below wx.heap.size wx y5 := hS.trans (hb.mono hS.size)
                    clear v9 nb9 hb
                    obtain ⟨gv, hg9⟩ : ∃ g, g = y1.heap.size := ⟨_, rfl⟩
                    rw [← hg9] at HV NV LV ⊢
                    clear hg9
                    refine hK.out _ _ hS (fun _ => ?_)
                    simp only [Act.put, List.setIfInBounds_toArray, List.set_cons_zero, List.set_cons_succ]
                    clear hK K
                    refine wpAnyH_ready (rs := [5]) (by kernel_rfl) (by simp) ?_
                    refine AllReadyH.cons rfl (fun K hK => ?_) AllReadyH.nil
                    refine step_callW _ (by rfl) (some 37) rfl 32 #[.tmp 32, .tmp 36] #[23, 24] rfl (fun q w' => by rfl) #[.agg ([.int .i64 g0, .int .i64 g1, .int .i64 (S : Int), .int .i64 g3, .int .i64 g4, .int .i64 g5] : List Value).toArray, .slice zo zn zc] (by simp only [List.map_toArray, List.map_cons, List.map_nil]; rfl) (fun u w' => (∃ po pc uo uc, u = .agg (pg10 kd9 n9 c9 l9 e9 t9 (.slice po S pc) (.slice uo 32 uc) true true).toArray ∧ Byt w' (.slice po S pc) Q9) ∧ Below y5.heap.size y5 w') ?_ ?_
                    · exact (SB.out y5 (BX.out.trans (hS.mono BX.out.size))).mono fun e w' ⟨po, pc, uo, uc, h1, h2, h3⟩ => ⟨_, h1, ⟨po, pc, uo, uc, rfl, h2⟩, h3⟩
                    rintro _ y6 ⟨⟨po, pc, uo, uc, rfl, y9⟩, hb⟩
                    have HP : Hid (Byt y6 (.slice po S pc) Q9) := y9
                    have NV : Hid (NoB y6 gv) := NV.out.heap (hb.block _ (range_lt HV.out.1 (Nat.succ_pos _)))
                    have HV : Hid (Vr y6 gv Z10) := HV.out.below hb (range_lt HV.out.1 (Nat.succ_pos _))
                    clear y9
                    have hS : Below wx.heap.size wx y6 := hS.trans (hb.mono hS.size)
                    clear hb
                    refine hK.out _ _ hS (fun _ => ?_)
                    simp only [Act.put, List.setIfInBounds_toArray, List.set_cons_zero, List.set_cons_succ]
                    clear hK K
                    refine wpAnyH_ready (rs := [7]) (by kernel_rfl) (by simp) ?_
                    refine AllReadyH.cons rfl (fun K hK => ?_) AllReadyH.nil
                    refine step_storeN _ rfl none rfl (.tmp 8) (.tmp 37) 70 rfl gv Z10 (pg10 kd9 n9 c9 l9 e9 t9 (.slice po S pc) (.slice uo 32 uc) true true) rfl rfl HV.out NV.out rfl rowy_rpage.2 (pg10_one _ _ _ _ _ _ _ _ _ _ _ _ _ _) (pg10_nob _ _ _ _ _ _ _ _ _ _ _ _ _ _) ?_
                    intro y7 v9 nb9 B9 k9
                    have HP : Hid (Byt y7 (.slice po S pc) Q9) := byt_nob HP.out NV.out k9
                    have HV : Hid (Vr y7 gv (pg10 kd9 n9 c9 l9 e9 t9 (.slice po S pc) (.slice uo 32 uc) true true)) := v9
                    have hS : Below wx.heap.size wx y7 := hS.trans (B9.mono LV.out)
                    clear v9 nb9 B9 k9
                    refine hK.out _ _ hS (fun _ => ?_)
                    simp only [Act.put]
                    clear hK K
                    refine wpAnyH_done (by kernel_rfl) ?_ _
                    go_wp2_with fail
                    go_meet
                    exact ⟨gv, po, pc, uo, uc, rfl, HV.out, HP.out, LV.out, hS⟩
                case rest =>
                  obtain ⟨gv, po, pc, uo, uc, rfl, x1, x2, x3, x4⟩ := hcut
                  have HV : Hid (Vr wc gv (pg10 kd9 n9 c9 l9 e9 t9 (.slice po S pc) (.slice uo 32 uc) true true)) := x1
                  have HP : Hid (Byt wc (.slice po S pc) Q9) := x2
                  have LT8 : Hid (c6 < gv) := Nat.lt_of_lt_of_le (range_lt H6.out.1 (Nat.succ_pos _)) x3
                  have NB_H4 : Hid (NoB wc c4) := NB_H4.out.heap (x4.block _ (range_lt H4.out.1 (Nat.succ_pos _)))
                  have H4 : Hid (Vr wc c4 Z3) := H4.out.below x4 (range_lt H4.out.1 (Nat.succ_pos _))
                  have HB0 : Hid (Vr wc w.heap.size [.int .i64 g0, .int .i64 g1, .int .i64 (S : Int), .int .i64 g3, .int .i64 g4, .int .i64 g5]) := HB0.out.below x4 (range_lt HB0.out.1 (Nat.succ_pos _))
                  have NB_H6 : Hid (NoB wc c6) := NB_H6.out.heap (x4.block _ (range_lt H6.out.1 (Nat.succ_pos _)))
                  have H6 : Hid (Vr wc c6 (hdl G0 (.slice ro rn rc) true)) := H6.out.below x4 (range_lt H6.out.1 (Nat.succ_pos _))
                  have HY : Hid (Byt wc (.slice ro rn rc) (parts F k)) := HY.out.below x4
                  have BB : Hid (Below w.heap.size w wc) := BB.out.trans (x4.mono BB.out.size)
                  have hv_4 : wc.cell? ⟨gv, 4, none⟩ = some (.int .u64 e9) := HV.out.cell 4 _ rfl
                  clear x1 x2 x3 x4 HZ HZB BX SB
                  go_upto_if 39 with fail
                  go_cut [] (fun wc => Vr wc c6 (hdl KG (.slice ro rn rc) true) ∧ NoB wc c6 ∧ Vr wc w.heap.size [.int .i64 g0, .int .i64 g1, .int .i64 (S : Int), .int .i64 g3, .int .i64 g4, .int .i64 g5] ∧ (Vr wc c4 Z3 ∧ NoB wc c4) ∧ Vr wc gv (pg10 kd9 n9 c9 l9 e9 t9 (.slice po S pc) (.slice uo 32 uc) true true) ∧ Byt wc (.slice po S pc) Q9 ∧ Byt wc (.slice ro rn rc) (parts F k) ∧ Below w.heap.size w wc)
                  case first =>
                    by_cases hk0 : k = 0
                    · subst hk0
                      have t80 : (1 : Nat) = 1 := rfl
                      go_wp2_with (have q80 := t80; (with_reducible refine at_store ?_); refine set_lawK _ (hdl G0 (.slice ro rn rc) true) c6 0 (.int .u64 e9) rfl rfl H6.out NB_H6.out (show (0 : Nat) < 3 by decide) rfl rfl (fun y z => by cases z) one_u64.2 ?_; intro wd v9 nb9 B9 k9; have HP : Hid (Byt wd (.slice po S pc) Q9) := byt_nob HP.out NB_H6.out k9; have HY : Hid (Byt wd (.slice ro rn rc) (parts F 0)) := byt_nob HY.out NB_H6.out k9; have HB0 : Hid (Vr wd w.heap.size [.int .i64 g0, .int .i64 g1, .int .i64 (S : Int), .int .i64 g3, .int .i64 g4, .int .i64 g5]) := HB0.out.heap (k9 _ (Nat.ne_of_lt LT0.out)); have NB_H4 : Hid (NoB wd c4) := NB_H4.out.heap (k9 _ (Nat.ne_of_lt LT4.out)); have H4 : Hid (Vr wd c4 Z3) := H4.out.heap (k9 _ (Nat.ne_of_lt LT4.out)); have HV : Hid (Vr wd gv (pg10 kd9 n9 c9 l9 e9 t9 (.slice po S pc) (.slice uo 32 uc) true true)) := HV.out.heap (k9 _ (Nat.ne_of_gt LT8.out)); have H6 : Hid (Vr wd c6 (hdl e9 (.slice ro rn rc) true)) := v9; have NB_H6 : Hid (NoB wd c6) := nb9; have BB : Hid (Below w.heap.size w wd) := BB.out.trans (B9.mono (Nat.le_of_lt LT0.out)); clear v9 nb9 B9 k9 t80)
                      go_meet
                      exact ⟨(by have z := H6.out; rw [K0.out (by simp)] at z; exact z), NB_H6.out, HB0.out, ⟨H4.out, NB_H4.out⟩, HV.out, HP.out, HY.out, BB.out⟩
                    · have nk0 : ((k : Int) == 0) = false := beq_eq_false_iff_ne.2 (by omega)
                      go_wp2_with fail
                      go_meet
                      exact ⟨(by have z := H6.out; rw [GK.out (by omega)] at z; exact z), NB_H6.out, HB0.out, ⟨H4.out, NB_H4.out⟩, HV.out, HP.out, HY.out, BB.out⟩
                  case rest =>
                    obtain ⟨x1, x2, x3, ⟨x4, x5⟩, x6, x7, x8, x10⟩ := hcut
                    clear H6 NB_H6 HB0 H4 NB_H4 HV HP HY BB hv_4
                    have H6 : Hid (Vr wc c6 (hdl KG (.slice ro rn rc) true)) := x1
                    have NB_H6 : Hid (NoB wc c6) := x2
                    have HB0 : Hid (Vr wc w.heap.size [.int .i64 g0, .int .i64 g1, .int .i64 (S : Int), .int .i64 g3, .int .i64 g4, .int .i64 g5]) := x3
                    have H4 : Hid (Vr wc c4 Z3) := x4
                    have NB_H4 : Hid (NoB wc c4) := x5
                    have HV : Hid (Vr wc gv (pg10 kd9 n9 c9 l9 e9 t9 (.slice po S pc) (.slice uo 32 uc) true true)) := x6
                    have HP : Hid (Byt wc (.slice po S pc) Q9) := x7
                    have HY : Hid (Byt wc (.slice ro rn rc) (parts F k)) := x8
                    have BB : Hid (Below w.heap.size w wc) := x10
                    clear x1 x2 x3 x4 x5 x6 x7 x8 x10
                    go_wp2
                    refine wp_region_held_drew (S := fun w' => Below wc.heap.size wc w') (by kernel_rfl) (Below.refl _ _).drew (fun hS => ?_)
                    obtain ⟨y1, hx0⟩ : ∃ x, x = wc.drew := ⟨_, rfl⟩
                    rw [← hx0] at hS  ⊢
                    clear hx0
                    refine take_lawH 0 (some 44) (.pointer (some ⟨gv, 9, none⟩)) rfl rfl (by kernel_rfl) (by kernel_rfl) (by kernel_rfl) (fun _ _ _ h => h) (Or.inl ⟨by rfl, fun w' hw' => by go_simp⟩) hS ?_
                    simp only [Act.put, List.setIfInBounds_toArray, List.set_cons_zero, List.set_cons_succ]
                    refine take_lawH 1 (some 45) (.bool true) rfl rfl (by kernel_rfl) (by kernel_rfl) (by kernel_rfl) (fun _ _ _ h => h) (Or.inl ⟨by rfl, fun w' hw' => by exact exec_loadN 4 (.tmp 44) rfl _ rfl _ _ (load_one one_bool ((HV.out.below hw' (range_lt HV.out.1 (Nat.succ_pos _))).cell 9 _ rfl))⟩) hS ?_
                    simp only [Act.put, List.setIfInBounds_toArray, List.set_cons_zero, List.set_cons_succ]
                    refine take_lawH 2 (some 46) (.bool false) rfl rfl (by kernel_rfl) (by kernel_rfl) (by kernel_rfl) (fun _ _ _ h => h) (Or.inl ⟨by rfl, fun w' hw' => by exact exec_notB (.tmp 45) rfl true _ rfl rfl _⟩) hS ?_
                    simp only [Act.put, List.setIfInBounds_toArray, List.set_cons_zero, List.set_cons_succ]
                    refine take_lawH 3 (some 47) (.bool false) rfl rfl (by kernel_rfl) (by kernel_rfl) (by kernel_rfl) (fun _ _ _ h => h) (Or.inl ⟨by rfl, fun w' hw' => by rfl⟩) hS ?_
                    simp only [Act.put, List.setIfInBounds_toArray, List.set_cons_zero, List.set_cons_succ]
                    refine take_lawH 4 (some 48) (.pointer (some ⟨gv, 0, none⟩)) rfl rfl (by kernel_rfl) (by kernel_rfl) (by kernel_rfl) (fun _ _ _ h => h) (Or.inl ⟨by rfl, fun w' hw' => by go_simp⟩) hS ?_
                    simp only [Act.put, List.setIfInBounds_toArray, List.set_cons_zero, List.set_cons_succ]
                    refine take_lawH 5 (some 49) (.agg (hv kd9 n9 c9 l9 e9 t9).toArray) rfl rfl (by kernel_rfl) (by kernel_rfl) (by kernel_rfl) (fun _ _ _ h => h) (Or.inl ⟨by rfl, fun w' hw' => by exact exec_loadN 57 (.tmp 48) rfl _ rfl _ _ (load_cells rowy_head (range_head10 (HV.out.below hw' (range_lt HV.out.1 (Nat.succ_pos _))).1))⟩) hS ?_
                    simp only [Act.put, List.setIfInBounds_toArray, List.set_cons_zero, List.set_cons_succ]
                    refine take_lawH 6 (some 50) (.agg ([.int .i64 g0, .int .i64 g1, .int .i64 (S : Int), .int .i64 g3, .int .i64 g4, .int .i64 g5] : List Value).toArray) rfl rfl (by kernel_rfl) (by kernel_rfl) (by kernel_rfl) (fun _ _ _ h => h) (Or.inl ⟨by rfl, fun w' hw' => by exact exec_loadN 23 (.tmp 2) rfl _ rfl _ _ (load_cells rowy_geo (HB0.out.below hw' (range_lt HB0.out.1 (Nat.succ_pos _))).1)⟩) hS ?_
                    simp only [Act.put, List.setIfInBounds_toArray, List.set_cons_zero, List.set_cons_succ]
                    refine take_lawH 7 (some 51) (.int .i64 (k : Int)) rfl rfl (by kernel_rfl) (by kernel_rfl) (by kernel_rfl) (fun _ _ _ h => h) (Or.inl ⟨by rfl, fun w' hw' => by rfl⟩) hS ?_
                    simp only [Act.put, List.setIfInBounds_toArray, List.set_cons_zero, List.set_cons_succ]
                    refine take_lawH 8 (some 52) (.pointer (some ⟨c6, 0, none⟩)) rfl rfl (by kernel_rfl) (by kernel_rfl) (by kernel_rfl) (fun _ _ _ h => h) (Or.inl ⟨by rfl, fun w' hw' => by go_simp⟩) hS ?_
                    simp only [Act.put, List.setIfInBounds_toArray, List.set_cons_zero, List.set_cons_succ]
                    refine take_lawH 9 (some 53) (.int .u64 KG) rfl rfl (by kernel_rfl) (by kernel_rfl) (by kernel_rfl) (fun _ _ _ h => h) (Or.inl ⟨by rfl, fun w' hw' => by exact exec_loadN 25 (.tmp 52) rfl _ rfl _ _ (load_one one_u64 ((H6.out.below hw' (range_lt H6.out.1 (Nat.succ_pos _))).cell 0 _ rfl))⟩) hS ?_
                    simp only [Act.put, List.setIfInBounds_toArray, List.set_cons_zero, List.set_cons_succ]
                    refine wpAnyH_ready (rs := [10]) (by kernel_rfl) (by simp) ?_
                    refine AllReadyH.cons rfl (fun K hK => ?_) AllReadyH.nil
                    refine step_callW _ (by rfl) (some 54) rfl 28 #[.tmp 50, .tmp 51, .tmp 53] #[23, 3, 25] rfl (fun q w' => by rfl) #[.agg ([.int .i64 g0, .int .i64 g1, .int .i64 (S : Int), .int .i64 g3, .int .i64 g4, .int .i64 g5] : List Value).toArray, .int .i64 (k : Int), .int .u64 KG] (by simp only [List.map_toArray, List.map_cons, List.map_nil]; rfl) (fun u w' => u = .agg (hv 4 (k : Int) 0 (N : Int) KG 0).toArray ∧ Below y1.heap.size y1 w') ?_ ?_
                    · exact (SH.out y1).mono fun e w' ⟨h1, h2⟩ => ⟨_, h1, rfl, h2⟩
                    rintro _ y2 ⟨rfl, hb⟩
                    have hS : Below wc.heap.size wc y2 := hS.trans (hb.mono hS.size)
                    clear hb
                    refine hK.out _ _ hS (fun _ => ?_)
                    simp only [Act.put, List.setIfInBounds_toArray, List.set_cons_zero, List.set_cons_succ]
                    clear hK K
                    refine take_lawH 11 (some 55) (.bool false) rfl rfl (by kernel_rfl) (by kernel_rfl) (by kernel_rfl) (fun _ _ _ h => h) (Or.inl ⟨by rfl, fun w' hw' => by exact exec_neqH (.tmp 49) (.tmp 54) rfl kd9 n9 c9 l9 e9 t9 4 (k : Int) 0 (N : Int) KG 0 rfl rfl false HQ.out _⟩) hS ?_
                    simp only [Act.put, List.setIfInBounds_toArray, List.set_cons_zero, List.set_cons_succ]
                    refine take_lawH 12 (some 56) (.bool false) rfl rfl (by kernel_rfl) (by kernel_rfl) (by kernel_rfl) (fun _ _ _ h => h) (Or.inl ⟨by rfl, fun w' hw' => by rfl⟩) hS ?_
                    simp only [Act.put, List.setIfInBounds_toArray, List.set_cons_zero, List.set_cons_succ]
                    refine take_lawH 13 (some 57) (.bool false) rfl rfl (by kernel_rfl) (by kernel_rfl) (by kernel_rfl) (fun _ _ _ h => h) (Or.inl ⟨by rfl, fun w' hw' => by rfl⟩) hS ?_
                    simp only [Act.put, List.setIfInBounds_toArray, List.set_cons_zero, List.set_cons_succ]
                    refine take_lawH 14 (some 58) (.int .i64 (k : Int)) rfl rfl (by kernel_rfl) (by kernel_rfl) (by kernel_rfl) (fun _ _ _ h => h) (Or.inl ⟨by rfl, fun w' hw' => by rfl⟩) hS ?_
                    simp only [Act.put, List.setIfInBounds_toArray, List.set_cons_zero, List.set_cons_succ]
                    refine take_lawH 15 (some 59) (.int .i64 (N : Int)) rfl rfl (by kernel_rfl) (by kernel_rfl) (by kernel_rfl) (fun _ _ _ h => h) (Or.inl ⟨by rfl, fun w' hw' => by rfl⟩) hS ?_
                    simp only [Act.put, List.setIfInBounds_toArray, List.set_cons_zero, List.set_cons_succ]
                    refine take_lawH 16 (some 60) (.int .i64 ((N - 1 : Nat) : Int)) rfl rfl (by kernel_rfl) (by kernel_rfl) (by kernel_rfl) (fun _ _ _ h => h) (Or.inl ⟨by rfl, fun w' hw' => by exact exec_sub (.tmp 59) (.const (.int .i64 1)) rfl (N : Int) 1 _ rfl rfl N1.out⟩) hS ?_
                    simp only [Act.put, List.setIfInBounds_toArray, List.set_cons_zero, List.set_cons_succ]
                    refine take_lawH 17 (some 61) (.bool true) rfl rfl (by kernel_rfl) (by kernel_rfl) (by kernel_rfl) (fun _ _ _ h => h) (Or.inl ⟨by rfl, fun w' hw' => by exact exec_eqlI (.tmp 58) (.tmp 60) rfl (k : Int) ((N - 1 : Nat) : Int) rfl rfl true KL.out _⟩) hS ?_
                    simp only [Act.put, List.setIfInBounds_toArray, List.set_cons_zero, List.set_cons_succ]
                    refine take_lawH 18 (some 62) (.bool true) rfl rfl (by kernel_rfl) (by kernel_rfl) (by kernel_rfl) (fun _ _ _ h => h) (Or.inl ⟨by rfl, fun w' hw' => by rfl⟩) hS ?_
                    simp only [Act.put, List.setIfInBounds_toArray, List.set_cons_zero, List.set_cons_succ]
                    refine take_lawH 19 (some 63) (.pointer (some ⟨gv, 8, none⟩)) rfl rfl (by kernel_rfl) (by kernel_rfl) (by kernel_rfl) (fun _ _ _ h => h) (Or.inl ⟨by rfl, fun w' hw' => by go_simp⟩) hS ?_
                    simp only [Act.put, List.setIfInBounds_toArray, List.set_cons_zero, List.set_cons_succ]
                    refine take_lawH 20 (some 64) (.bool true) rfl rfl (by kernel_rfl) (by kernel_rfl) (by kernel_rfl) (fun _ _ _ h => h) (Or.inl ⟨by rfl, fun w' hw' => by exact exec_loadN 4 (.tmp 63) rfl _ rfl _ _ (load_one one_bool ((HV.out.below hw' (range_lt HV.out.1 (Nat.succ_pos _))).cell 8 _ rfl))⟩) hS ?_
                    simp only [Act.put, List.setIfInBounds_toArray, List.set_cons_zero, List.set_cons_succ]
                    refine take_lawH 21 (some 65) (.bool false) rfl rfl (by kernel_rfl) (by kernel_rfl) (by kernel_rfl) (fun _ _ _ h => h) (Or.inl ⟨by rfl, fun w' hw' => by exact exec_notB (.tmp 64) rfl true _ rfl rfl _⟩) hS ?_
                    simp only [Act.put, List.setIfInBounds_toArray, List.set_cons_zero, List.set_cons_succ]
                    refine take_lawH 22 (some 66) (.bool false) rfl rfl (by kernel_rfl) (by kernel_rfl) (by kernel_rfl) (fun _ _ _ h => h) (Or.inl ⟨by rfl, fun w' hw' => by rfl⟩) hS ?_
                    simp only [Act.put, List.setIfInBounds_toArray, List.set_cons_zero, List.set_cons_succ]
                    refine take_lawH 23 (some 67) (.bool false) rfl rfl (by kernel_rfl) (by kernel_rfl) (by kernel_rfl) (fun _ _ _ h => h) (Or.inl ⟨by rfl, fun w' hw' => by rfl⟩) hS ?_
                    simp only [Act.put, List.setIfInBounds_toArray, List.set_cons_zero, List.set_cons_succ]
                    refine wpAnyH_done (by kernel_rfl) ?_ _
                    have NB_H4 : Hid (NoB y2 c4) := NB_H4.out.heap (hS.block _ (range_lt H4.out.1 (Nat.succ_pos _)))
                    have H4 : Hid (Vr y2 c4 Z3) := H4.out.below hS (range_lt H4.out.1 (Nat.succ_pos _))
                    have HB0 : Hid (Vr y2 w.heap.size [.int .i64 g0, .int .i64 g1, .int .i64 (S : Int), .int .i64 g3, .int .i64 g4, .int .i64 g5]) := HB0.out.below hS (range_lt HB0.out.1 (Nat.succ_pos _))
                    have NB_H6 : Hid (NoB y2 c6) := NB_H6.out.heap (hS.block _ (range_lt H6.out.1 (Nat.succ_pos _)))
                    have H6 : Hid (Vr y2 c6 (hdl KG (.slice ro rn rc) true)) := H6.out.below hS (range_lt H6.out.1 (Nat.succ_pos _))
                    have HY : Hid (Byt y2 (.slice ro rn rc) (parts F k)) := HY.out.below hS
                    have HV : Hid (Vr y2 gv (pg10 kd9 n9 c9 l9 e9 t9 (.slice po S pc) (.slice uo 32 uc) true true)) := HV.out.below hS (range_lt HV.out.1 (Nat.succ_pos _))
                    have HP : Hid (Byt y2 (.slice po S pc) Q9) := HP.out.below hS
                    have BB : Hid (Below w.heap.size w y2) := BB.out.trans (hS.mono BB.out.size)
                    clear hS
                    go_wp2
                    have BX : Hid (Below y2.heap.size y2 y2.drew) := (Below.refl _ _).drew
                    refine wp_region_held_drew (S := fun w' => w'.rangeAt gv 0 (pg10 kd9 n9 c9 l9 e9 t9 (.slice po S pc) (.slice uo 32 uc) true true)) (by kernel_rfl) (HV.out.drewN 1).1 (fun hS => ?_)
                    obtain ⟨z1, hx0⟩ : ∃ x, x = y2.drew := ⟨_, rfl⟩
                    rw [← hx0] at hS BX ⊢
                    clear hx0
                    refine take_lawH 1 (some 70) (.pointer (some ⟨c6, 1, none⟩)) rfl rfl (by kernel_rfl) (by kernel_rfl) (by kernel_rfl) (fun _ _ _ h => h) (Or.inl ⟨by rfl, fun w' hw' => by go_simp⟩) hS ?_
                    simp only [Act.put, List.setIfInBounds_toArray, List.set_cons_zero, List.set_cons_succ]
                    refine take_lawH 4 (some 73) (.pointer (some ⟨gv, 6, none⟩)) rfl rfl (by kernel_rfl) (by kernel_rfl) (by kernel_rfl) (fun _ _ _ h => h) (Or.inl ⟨by rfl, fun w' hw' => by go_simp⟩) hS ?_
                    simp only [Act.put, List.setIfInBounds_toArray, List.set_cons_zero, List.set_cons_succ]
                    refine take_lawH 5 (some 74) (.slice po S pc) rfl rfl (by kernel_rfl) (by kernel_rfl) (by kernel_rfl) (fun _ _ _ h => h) (Or.inl ⟨by rfl, fun w' hw' => by exact exec_loadN 24 (.tmp 73) rfl _ rfl _ _ (load_one one_bytes (hw' 6 _ rfl))⟩) hS ?_
                    simp only [Act.put, List.setIfInBounds_toArray, List.set_cons_zero, List.set_cons_succ]
                    refine wpAnyH_ready (rs := [0, 2]) (by kernel_rfl) (by simp) ?_
                    refine AllReadyH.cons rfl (fun K hK => ?_) (AllReadyH.cons rfl (fun K hK => ?_) AllReadyH.nil)
                    · refine step_nil _ rfl (some 69) rfl rfl ?_
                      intro nv z2 O9 hb
                      have ON : Hid (Own y2.heap.size z2 nv []) := own_less O9 BX.out.size
                      have hS : z2.rangeAt gv 0 (pg10 kd9 n9 c9 l9 e9 t9 (.slice po S pc) (.slice uo 32 uc) true true) := range_heap hS (hb.block _ (range_lt hS (Nat.succ_pos _)))
                      have BX : Hid (Below y2.heap.size y2 z2) := BX.out.trans (hb.mono BX.out.size)
                      clear hb O9
                      refine hK.out _ _ hS (fun _ => ?_)
                      simp only [Act.put, List.setIfInBounds_toArray, List.set_cons_zero, List.set_cons_succ]
                      clear hK K
                      refine wpAnyH_ready (rs := [2]) (by kernel_rfl) (by simp) ?_
                      refine AllReadyH.cons rfl (fun K hK => ?_) AllReadyH.nil
                      refine step_load1 _ rfl (some 71) rfl 24 one_bytes (.tmp 70) rfl c6 1 (.slice ro rn rc) rfl ((H6.out.below BX.out (range_lt H6.out.1 (Nat.succ_pos _))).cell 1 _ rfl) ?_
                      refine hK.out _ _ hS (fun _ => ?_)
                      simp only [Act.put, List.setIfInBounds_toArray, List.set_cons_zero, List.set_cons_succ]
                      clear hK K
                      refine wpAnyH_ready (rs := [3]) (by kernel_rfl) (by simp) ?_
                      refine AllReadyH.cons rfl (fun K hK => ?_) AllReadyH.nil
                      refine step_pushs _ rfl (some 72) rfl (.tmp 69) (.tmp 71) rfl y2.heap.size BX.out.size _ _ [] (parts F k) rfl rfl ON.out (HY.out.below BX.out) (by simp) PL.out.1 ?_
                      intro pv1 z3 O9 hb
                      have ON : Hid (Own y2.heap.size z3 pv1 (parts F k)) := (by rw [List.nil_append] at O9; exact O9)
                      have hS : z3.rangeAt gv 0 (pg10 kd9 n9 c9 l9 e9 t9 (.slice po S pc) (.slice uo 32 uc) true true) := range_heap hS (hb.block _ (range_lt HV.out.1 (Nat.succ_pos _)))
                      have BX : Hid (Below y2.heap.size y2 z3) := BX.out.trans hb
                      clear hb O9
                      refine hK.out _ _ hS (fun _ => ?_)
                      simp only [Act.put, List.setIfInBounds_toArray, List.set_cons_zero, List.set_cons_succ]
                      clear hK K
                      refine wpAnyH_ready (rs := [6]) (by kernel_rfl) (by simp) ?_
                      refine AllReadyH.cons rfl (fun K hK => ?_) AllReadyH.nil
                      refine step_pushs _ rfl (some 75) rfl (.tmp 72) (.tmp 74) rfl y2.heap.size BX.out.size _ _ (parts F k) Q9 rfl rfl ON.out (HP.out.below BX.out) PL.out.1 PL.out.2 ?_
                      intro vv z4 O9 hb
                      have YV : Hid (Byt z4 vv (parts F k ++ Q9)) := O9.byt QA.out
                      have hS : z4.rangeAt gv 0 (pg10 kd9 n9 c9 l9 e9 t9 (.slice po S pc) (.slice uo 32 uc) true true) := range_heap hS (hb.block _ (range_lt HV.out.1 (Nat.succ_pos _)))
                      have BX : Hid (Below y2.heap.size y2 z4) := BX.out.trans hb
                      clear hb O9
                      obtain ⟨vo, vn, vc, e9⟩ := sle_byt YV.out
                      subst e9
                      refine hK.out _ _ hS (fun _ => ?_)
                      simp only [Act.put, List.setIfInBounds_toArray, List.set_cons_zero, List.set_cons_succ]
                      clear hK K
                      refine take_lawH 7 (some 76) (.pointer (some ⟨c6, 1, none⟩)) rfl rfl (by kernel_rfl) (by kernel_rfl) (by kernel_rfl) (fun _ _ _ h => h) (Or.inl ⟨by rfl, fun w' hw' => by go_simp⟩) hS ?_
                      simp only [Act.put, List.setIfInBounds_toArray, List.set_cons_zero, List.set_cons_succ]
                      refine wpAnyH_ready (rs := [8]) (by kernel_rfl) (by simp) ?_
                      refine AllReadyH.cons rfl (fun K hK => ?_) AllReadyH.nil
                      have NB_H6 : Hid (NoB z4 c6) := NB_H6.out.heap (BX.out.block _ (range_lt H6.out.1 (Nat.succ_pos _)))
                      have NB_H4 : Hid (NoB z4 c4) := NB_H4.out.heap (BX.out.block _ (range_lt H4.out.1 (Nat.succ_pos _)))
                      have H4 : Hid (Vr z4 c4 Z3) := H4.out.below BX.out (range_lt H4.out.1 (Nat.succ_pos _))
                      have HB0 : Hid (Vr z4 w.heap.size [.int .i64 g0, .int .i64 g1, .int .i64 (S : Int), .int .i64 g3, .int .i64 g4, .int .i64 g5]) := HB0.out.below BX.out (range_lt HB0.out.1 (Nat.succ_pos _))
                      have H6 : Hid (Vr z4 c6 (hdl KG (.slice ro rn rc) true)) := H6.out.below BX.out (range_lt H6.out.1 (Nat.succ_pos _))
                      refine step_setC _ rfl none rfl (.tmp 76) (.tmp 75) 24 rfl (hdl KG (.slice ro rn rc) true) c6 1 (.slice vo vn vc) rfl rfl H6.out NB_H6.out (show (1 : Nat) < 3 by decide) rfl rfl (fun y z => by cases z) one_bytes.2 ?_
                      intro z5 v9 nb9 B9 k9
                      have YV : Hid (Byt z5 (.slice vo vn vc) (parts F k ++ Q9)) := byt_nob YV.out NB_H6.out k9
                      have HB0 : Hid (Vr z5 w.heap.size [.int .i64 g0, .int .i64 g1, .int .i64 (S : Int), .int .i64 g3, .int .i64 g4, .int .i64 g5]) := HB0.out.heap (k9 _ (Nat.ne_of_lt LT0.out))
                      have NB_H4 : Hid (NoB z5 c4) := NB_H4.out.heap (k9 _ (Nat.ne_of_lt LT4.out))
                      have H4 : Hid (Vr z5 c4 Z3) := H4.out.heap (k9 _ (Nat.ne_of_lt LT4.out))
                      have H6 : Hid (Vr z5 c6 (hdl KG (.slice vo vn vc) true)) := v9
                      have NB_H6 : Hid (NoB z5 c6) := nb9
                      have hS : z5.rangeAt gv 0 (pg10 kd9 n9 c9 l9 e9 t9 (.slice po S pc) (.slice uo 32 uc) true true) := range_heap hS (k9 _ (Nat.ne_of_gt LT8.out))
                      have BE : Hid (Below w.heap.size w z5) := (BB.out.trans (BX.out.mono BB.out.size)).trans (B9.mono (Nat.le_of_lt LT0.out))
                      clear v9 nb9 B9 k9
                      refine hK.out _ _ hS (fun _ => ?_)
                      simp only [Act.put]
                      clear hK K
                      refine wpAnyH_done (by kernel_rfl) ?_ _
                      clear hS
                      go_wp2
                      go_roundw
                      case rel => exact ⟨k + 1, _, _, _, _, by omega, by go_num, H6.out, NB_H6.out, HB0.out, ⟨H4.out, NB_H4.out⟩, (by have z := YV.out; rw [QE.out] at z; exact z), fun _ => rfl, ⟨JN.out, KC.out⟩, BE.out⟩
                      case measure => simp [intOf]; omega
                    · refine step_load1 _ rfl (some 71) rfl 24 one_bytes (.tmp 70) rfl c6 1 (.slice ro rn rc) rfl ((H6.out.below BX.out (range_lt H6.out.1 (Nat.succ_pos _))).cell 1 _ rfl) ?_
                      refine hK.out _ _ hS (fun _ => ?_)
                      simp only [Act.put, List.setIfInBounds_toArray, List.set_cons_zero, List.set_cons_succ]
                      clear hK K
                      refine wpAnyH_ready (rs := [0]) (by kernel_rfl) (by simp) ?_
                      refine AllReadyH.cons rfl (fun K hK => ?_) AllReadyH.nil
                      refine step_nil _ rfl (some 69) rfl rfl ?_
                      intro nv z6 O9 hb
                      have ON : Hid (Own y2.heap.size z6 nv []) := own_less O9 BX.out.size
                      have hS : z6.rangeAt gv 0 (pg10 kd9 n9 c9 l9 e9 t9 (.slice po S pc) (.slice uo 32 uc) true true) := range_heap hS (hb.block _ (range_lt hS (Nat.succ_pos _)))
                      have BX : Hid (Below y2.heap.size y2 z6) := BX.out.trans (hb.mono BX.out.size)
                      clear hb O9
                      refine hK.out _ _ hS (fun _ => ?_)
                      simp only [Act.put, List.setIfInBounds_toArray, List.set_cons_zero, List.set_cons_succ]
                      clear hK K
                      refine wpAnyH_ready (rs := [3]) (by kernel_rfl) (by simp) ?_
                      refine AllReadyH.cons rfl (fun K hK => ?_) AllReadyH.nil
                      refine step_pushs _ rfl (some 72) rfl (.tmp 69) (.tmp 71) rfl y2.heap.size BX.out.size _ _ [] (parts F k) rfl rfl ON.out (HY.out.below BX.out) (by simp) PL.out.1 ?_
                      intro pv1 z7 O9 hb
                      have ON : Hid (Own y2.heap.size z7 pv1 (parts F k)) := (by rw [List.nil_append] at O9; exact O9)
                      have hS : z7.rangeAt gv 0 (pg10 kd9 n9 c9 l9 e9 t9 (.slice po S pc) (.slice uo 32 uc) true true) := range_heap hS (hb.block _ (range_lt HV.out.1 (Nat.succ_pos _)))
                      have BX : Hid (Below y2.heap.size y2 z7) := BX.out.trans hb
                      clear hb O9
                      refine hK.out _ _ hS (fun _ => ?_)
                      simp only [Act.put, List.setIfInBounds_toArray, List.set_cons_zero, List.set_cons_succ]
                      clear hK K
                      refine wpAnyH_ready (rs := [6]) (by kernel_rfl) (by simp) ?_
                      refine AllReadyH.cons rfl (fun K hK => ?_) AllReadyH.nil
                      refine step_pushs _ rfl (some 75) rfl (.tmp 72) (.tmp 74) rfl y2.heap.size BX.out.size _ _ (parts F k) Q9 rfl rfl ON.out (HP.out.below BX.out) PL.out.1 PL.out.2 ?_
                      intro vv z8 O9 hb
                      have YV : Hid (Byt z8 vv (parts F k ++ Q9)) := O9.byt QA.out
                      have hS : z8.rangeAt gv 0 (pg10 kd9 n9 c9 l9 e9 t9 (.slice po S pc) (.slice uo 32 uc) true true) := range_heap hS (hb.block _ (range_lt HV.out.1 (Nat.succ_pos _)))
                      have BX : Hid (Below y2.heap.size y2 z8) := BX.out.trans hb
                      clear hb O9
                      obtain ⟨vo, vn, vc, e9⟩ := sle_byt YV.out
                      subst e9
                      refine hK.out _ _ hS (fun _ => ?_)
                      simp only [Act.put, List.setIfInBounds_toArray, List.set_cons_zero, List.set_cons_succ]
                      clear hK K
                      refine take_lawH 7 (some 76) (.pointer (some ⟨c6, 1, none⟩)) rfl rfl (by kernel_rfl) (by kernel_rfl) (by kernel_rfl) (fun _ _ _ h => h) (Or.inl ⟨by rfl, fun w' hw' => by go_simp⟩) hS ?_
                      simp only [Act.put, List.setIfInBounds_toArray, List.set_cons_zero, List.set_cons_succ]
                      refine wpAnyH_ready (rs := [8]) (by kernel_rfl) (by simp) ?_
                      refine AllReadyH.cons rfl (fun K hK => ?_) AllReadyH.nil
                      have NB_H6 : Hid (NoB z8 c6) := NB_H6.out.heap (BX.out.block _ (range_lt H6.out.1 (Nat.succ_pos _)))
                      have NB_H4 : Hid (NoB z8 c4) := NB_H4.out.heap (BX.out.block _ (range_lt H4.out.1 (Nat.succ_pos _)))
                      have H4 : Hid (Vr z8 c4 Z3) := H4.out.below BX.out (range_lt H4.out.1 (Nat.succ_pos _))
                      have HB0 : Hid (Vr z8 w.heap.size [.int .i64 g0, .int .i64 g1, .int .i64 (S : Int), .int .i64 g3, .int .i64 g4, .int .i64 g5]) := HB0.out.below BX.out (range_lt HB0.out.1 (Nat.succ_pos _))
                      have H6 : Hid (Vr z8 c6 (hdl KG (.slice ro rn rc) true)) := H6.out.below BX.out (range_lt H6.out.1 (Nat.succ_pos _))
                      refine step_setC _ rfl none rfl (.tmp 76) (.tmp 75) 24 rfl (hdl KG (.slice ro rn rc) true) c6 1 (.slice vo vn vc) rfl rfl H6.out NB_H6.out (show (1 : Nat) < 3 by decide) rfl rfl (fun y z => by cases z) one_bytes.2 ?_
                      intro z9 v9 nb9 B9 k9
                      have YV : Hid (Byt z9 (.slice vo vn vc) (parts F k ++ Q9)) := byt_nob YV.out NB_H6.out k9
                      have HB0 : Hid (Vr z9 w.heap.size [.int .i64 g0, .int .i64 g1, .int .i64 (S : Int), .int .i64 g3, .int .i64 g4, .int .i64 g5]) := HB0.out.heap (k9 _ (Nat.ne_of_lt LT0.out))
                      have NB_H4 : Hid (NoB z9 c4) := NB_H4.out.heap (k9 _ (Nat.ne_of_lt LT4.out))
                      have H4 : Hid (Vr z9 c4 Z3) := H4.out.heap (k9 _ (Nat.ne_of_lt LT4.out))
                      have H6 : Hid (Vr z9 c6 (hdl KG (.slice vo vn vc) true)) := v9
                      have NB_H6 : Hid (NoB z9 c6) := nb9
                      have hS : z9.rangeAt gv 0 (pg10 kd9 n9 c9 l9 e9 t9 (.slice po S pc) (.slice uo 32 uc) true true) := range_heap hS (k9 _ (Nat.ne_of_gt LT8.out))
                      have BE : Hid (Below w.heap.size w z9) := (BB.out.trans (BX.out.mono BB.out.size)).trans (B9.mono (Nat.le_of_lt LT0.out))
                      clear v9 nb9 B9 k9
                      refine hK.out _ _ hS (fun _ => ?_)
                      simp only [Act.put]
                      clear hK K
                      refine wpAnyH_done (by kernel_rfl) ?_ _
                      clear hS
                      go_wp2
                      go_roundw
                      case rel => exact ⟨k + 1, _, _, _, _, by omega, by go_num, H6.out, NB_H6.out, HB0.out, ⟨H4.out, NB_H4.out⟩, (by have z := YV.out; rw [QE.out] at z; exact z), fun _ => rfl, ⟨JN.out, KC.out⟩, BE.out⟩
                      case measure => simp [intOf]; omega
              · have SB : Hid (∀ w0, Below wr.heap.size wr w0 → Calls Tryd.prog 32 #[.agg (ints .i64 [g0, g1, (S : Int), g3, g4, g5]), .slice zo zn zc] w0 fun x w' => ∃ po pc uo uc, x = .returned (.agg (pg10 (qk ((ls.getD k []).drop S)) (qn ((ls.getD k []).drop S)) (he.qc ((ls.getD k []).drop S)) (ql ((ls.getD k []).drop S)) (qe ((ls.getD k []).drop S)) (qt ((ls.getD k []).drop S)) (.slice po S pc) (.slice uo 32 uc) (decide (((ls.getD k []).drop S).drop 80 = List.replicate 8 0)) true).toArray) ∧ Byt w' (.slice po S pc) ((ls.getD k []).take S) ∧ Below w0.heap.size w0 w') := fun w0 q => (rpread_yes g0 g1 g3 g4 g5 S _ _ w0 (HZB.out.below q) (by rw [EN.out]; exact hl) ht).mono fun x w' ⟨po, pc, uo, uc, h1, h2, _, h4⟩ => ⟨po, pc, uo, uc, h1, h2, h4⟩
                have K0 : Hid (k = 0 → qe ((ls.getD k []).drop S) = KG) := fun h => (by rw [h]; exact HG0.out.symm)
                have HQ : Hid ((!decide (qk ((ls.getD k []).drop S) = 4 ∧ qn ((ls.getD k []).drop S) = (k : Int) ∧ he.qc ((ls.getD k []).drop S) = 0 ∧ ql ((ls.getD k []).drop S) = (N : Int) ∧ qe ((ls.getD k []).drop S) = KG ∧ qt ((ls.getD k []).drop S) = 0)) = false) := (by show _ = _; rw [decide_eq_true hh]; rfl)
                have KK : Hid (Kpg S KG k (ls.getD k [])) := ⟨by rw [EN.out]; exact hl, ht, hh.1, hh.2.1, hh.2.2.1, by rw [EK.out]; exact hh.2.2.2.1, hh.2.2.2.2.1, hh.2.2.2.2.2⟩
                have JN : Hid (∀ j, j < k + 1 → Kpg S KG j (ls.getD j [])) := fun j hj => (by
                  by_cases e : j = k
                  · rw [e]; exact KK.out
                  · exact HJ.out j (by omega))
                have NK : Hid (¬ Khd S ls) := fun h => (by
                  have q := (HX.out.1 h).2
                  rw [show N - 1 = k by omega] at q
                  exact hc q)
                have KL : Hid (((k : Int) == ((N - 1 : Nat) : Int)) = true) := beq_iff_eq.2 (by omega)
                have hd9 : decide (((ls.getD k []).drop S).drop 80 = List.replicate 8 0) = false := decide_eq_false hc
                rw [hd9] at SB
                clear hd9 hc hkl
                have PL : Hid ((parts F k).length ≤ 1099511627776 ∧ ((ls.getD k []).take S).length ≤ 1099511627776) := (by
                  have e : (parts F k).length = k * S := parts_len (n := k) (fun i hi => by rw [EF.out, List.length_take, (HJ.out i hi).1]; omega) k (Nat.le_refl _)
                  have := mul_small (k := k) (S := S) (by omega) s4
                  have : ((ls.getD k []).take S).length ≤ S := by rw [List.length_take]; omega
                  exact ⟨by omega, by omega⟩)
                have QE : Hid (parts F k ++ (ls.getD k []).take S = parts F (k + 1)) := (by show _ = _; rw [← EF.out]; rfl)
                have QA : Hid (AllB (parts F k ++ (ls.getD k []).take S)) := allB_app HY.out.all (allB_take HZB.out.all S)
                generalize qk ((ls.getD k []).drop S) = kd9 at SB HQ
                generalize qn ((ls.getD k []).drop S) = n9 at SB HQ
                generalize he.qc ((ls.getD k []).drop S) = c9 at SB HQ
                generalize ql ((ls.getD k []).drop S) = l9 at SB HQ
                generalize qe ((ls.getD k []).drop S) = e9 at SB HQ K0
                generalize qt ((ls.getD k []).drop S) = t9 at SB HQ
                generalize (ls.getD k []).take S = Q9 at SB PL QE QA
                clear hh ht hl
                have ZB : Hid (((zn : Int) != (S : Int) + 88) = false) := ZB0.out
                go_wp2
                refine wp_region_held_drew (S := fun w' => Below wr.heap.size wr w') (by kernel_rfl) (Below.refl _ _).drew (fun hS => ?_)
                obtain ⟨x1, hx0⟩ : ∃ x, x = wr.drew := ⟨_, rfl⟩
                rw [← hx0] at hS  ⊢
                clear hx0
                refine take_lawH 0 (some 22) (.slice (some ⟨b, off, none⟩) n cap) rfl rfl (by kernel_rfl) (by kernel_rfl) (by kernel_rfl) (fun _ _ _ h => h) (Or.inl ⟨by rfl, fun w' hw' => by rfl⟩) hS ?_
                simp only [Act.put, List.setIfInBounds_toArray, List.set_cons_zero, List.set_cons_succ]
                refine take_lawH 1 (some 23) (.int .i64 (k : Int)) rfl rfl (by kernel_rfl) (by kernel_rfl) (by kernel_rfl) (fun _ _ _ h => h) (Or.inl ⟨by rfl, fun w' hw' => by rfl⟩) hS ?_
                simp only [Act.put, List.setIfInBounds_toArray, List.set_cons_zero, List.set_cons_succ]
                refine take_lawH 2 (some 24) (.pointer (some ⟨b, off + k, none⟩)) rfl rfl (by kernel_rfl) (by kernel_rfl) (by kernel_rfl) (fun _ _ _ h => h) (Or.inl ⟨by rfl, fun w' hw' => by exact exec_idxR (.tmp 22) (.tmp 23) rfl b off n cap k rfl rfl KN.out _⟩) hS ?_
                simp only [Act.put, List.setIfInBounds_toArray, List.set_cons_zero, List.set_cons_succ]
                refine take_lawH 3 (some 25) (.slice zo zn zc) rfl rfl (by kernel_rfl) (by kernel_rfl) (by kernel_rfl) (fun _ _ _ h => h) (Or.inl ⟨by rfl, fun w' hw' => by exact exec_loadN 24 (.tmp 24) rfl _ rfl _ _ (load_one one_bytes (HZ.out _ hw'))⟩) hS ?_
                simp only [Act.put, List.setIfInBounds_toArray, List.set_cons_zero, List.set_cons_succ]
                refine take_lawH 4 (some 26) (.int .i64 (zn : Int)) rfl rfl (by kernel_rfl) (by kernel_rfl) (by kernel_rfl) (fun _ _ _ h => h) (Or.inl ⟨by rfl, fun w' hw' => by exact exec_lenB (.tmp 25) rfl zo zn zc rfl _⟩) hS ?_
                simp only [Act.put, List.setIfInBounds_toArray, List.set_cons_zero, List.set_cons_succ]
                refine take_lawH 5 (some 27) (.pointer (some ⟨w.heap.size, 2, none⟩)) rfl rfl (by kernel_rfl) (by kernel_rfl) (by kernel_rfl) (fun _ _ _ h => h) (Or.inl ⟨by rfl, fun w' hw' => by go_simp⟩) hS ?_
                simp only [Act.put, List.setIfInBounds_toArray, List.set_cons_zero, List.set_cons_succ]
                refine take_lawH 6 (some 28) (.int .i64 (S : Int)) rfl rfl (by kernel_rfl) (by kernel_rfl) (by kernel_rfl) (fun _ _ _ h => h) (Or.inl ⟨by rfl, fun w' hw' => by exact exec_loadN 3 (.tmp 27) rfl _ rfl _ _ (ld_int ((HB0.out.below hw' (range_lt HB0.out.1 (Nat.succ_pos _))).cell 2 _ rfl))⟩) hS ?_
                simp only [Act.put, List.setIfInBounds_toArray, List.set_cons_zero, List.set_cons_succ]
                refine take_lawH 7 (some 29) (.int .i64 ((S : Int) + 88)) rfl rfl (by kernel_rfl) (by kernel_rfl) (by kernel_rfl) (fun _ _ _ h => h) (Or.inl ⟨by rfl, fun w' hw' => by exact exec_add (.tmp 28) (.const (.int .i64 88)) rfl (S : Int) 88 _ rfl rfl S88.out⟩) hS ?_
                simp only [Act.put, List.setIfInBounds_toArray, List.set_cons_zero, List.set_cons_succ]
                refine take_lawH 8 (some 30) (.bool false) rfl rfl (by kernel_rfl) (by kernel_rfl) (by kernel_rfl) (fun _ _ _ h => h) (Or.inl ⟨by rfl, fun w' hw' => by exact exec_neqI (.tmp 26) (.tmp 29) rfl (zn : Int) ((S : Int) + 88) rfl rfl false ZB.out _⟩) hS ?_
                simp only [Act.put, List.setIfInBounds_toArray, List.set_cons_zero, List.set_cons_succ]
                refine wpAnyH_done (by kernel_rfl) ?_ _
                obtain ⟨wx, ex⟩ : ∃ q, q = x1 := ⟨_, rfl⟩
                rw [← ex] at hS ⊢
                clear ex
                have NB_H4 : Hid (NoB wx c4) := NB_H4.out.heap (hS.block _ (range_lt H4.out.1 (Nat.succ_pos _)))
                have H4 : Hid (Vr wx c4 Z3) := H4.out.below hS (range_lt H4.out.1 (Nat.succ_pos _))
                have HB0 : Hid (Vr wx w.heap.size [.int .i64 g0, .int .i64 g1, .int .i64 (S : Int), .int .i64 g3, .int .i64 g4, .int .i64 g5]) := HB0.out.below hS (range_lt HB0.out.1 (Nat.succ_pos _))
                have NB_H6 : Hid (NoB wx c6) := NB_H6.out.heap (hS.block _ (range_lt H6.out.1 (Nat.succ_pos _)))
                have H6 : Hid (Vr wx c6 (hdl G0 (.slice ro rn rc) true)) := H6.out.below hS (range_lt H6.out.1 (Nat.succ_pos _))
                have HY : Hid (Byt wx (.slice ro rn rc) (parts F k)) := HY.out.below hS
                have BX : Hid (Below wr.heap.size wr wx) := hS
                have BB : Hid (Below w.heap.size w wx) := BB.out.trans (hS.mono BB.out.size)
                clear hS
                go_wp2
                have t1 : (1 : Nat) = 1 := rfl
                go_cut [8] (fun r8 wc => ∃ (gv : Nat) (po : Option Addr) (pc : Nat) (uo : Option Addr) (uc : Nat), r8 = .pointer (some ⟨gv, 0, none⟩) ∧ Vr wc gv (pg10 kd9 n9 c9 l9 e9 t9 (.slice po S pc) (.slice uo 32 uc) false true) ∧ Byt wc (.slice po S pc) Q9 ∧ wx.heap.size ≤ gv ∧ Below wx.heap.size wx wc)
                case first =>
                  refine wp_region_held_drew (S := fun w' => Below wx.heap.size wx w') (by kernel_rfl) (Below.refl _ _).drew (fun hS => ?_)
                  obtain ⟨y1, hx0⟩ : ∃ x, x = wx.drew := ⟨_, rfl⟩
                  rw [← hx0] at hS  ⊢
                  clear hx0
                  refine take_lawH 0 (some 32) (.agg ([.int .i64 g0, .int .i64 g1, .int .i64 (S : Int), .int .i64 g3, .int .i64 g4, .int .i64 g5] : List Value).toArray) rfl rfl (by kernel_rfl) (by kernel_rfl) (by kernel_rfl) (fun _ _ _ h => h) (Or.inl ⟨by rfl, fun w' hw' => by exact exec_loadN 23 (.tmp 2) rfl _ rfl _ _ (load_cells rowy_geo (HB0.out.below hw' (range_lt HB0.out.1 (Nat.succ_pos _))).1)⟩) hS ?_
                  simp only [Act.put, List.setIfInBounds_toArray, List.set_cons_zero, List.set_cons_succ]
                  refine take_lawH 1 (some 33) (.slice (some ⟨b, off, none⟩) n cap) rfl rfl (by kernel_rfl) (by kernel_rfl) (by kernel_rfl) (fun _ _ _ h => h) (Or.inl ⟨by rfl, fun w' hw' => by rfl⟩) hS ?_
                  simp only [Act.put, List.setIfInBounds_toArray, List.set_cons_zero, List.set_cons_succ]
                  refine take_lawH 2 (some 34) (.int .i64 (k : Int)) rfl rfl (by kernel_rfl) (by kernel_rfl) (by kernel_rfl) (fun _ _ _ h => h) (Or.inl ⟨by rfl, fun w' hw' => by rfl⟩) hS ?_
                  simp only [Act.put, List.setIfInBounds_toArray, List.set_cons_zero, List.set_cons_succ]
                  refine take_lawH 3 (some 35) (.pointer (some ⟨b, off + k, none⟩)) rfl rfl (by kernel_rfl) (by kernel_rfl) (by kernel_rfl) (fun _ _ _ h => h) (Or.inl ⟨by rfl, fun w' hw' => by exact exec_idxR (.tmp 33) (.tmp 34) rfl b off n cap k rfl rfl KN.out _⟩) hS ?_
                  simp only [Act.put, List.setIfInBounds_toArray, List.set_cons_zero, List.set_cons_succ]
                  refine take_lawH 4 (some 36) (.slice zo zn zc) rfl rfl (by kernel_rfl) (by kernel_rfl) (by kernel_rfl) (fun _ _ _ h => h) (Or.inl ⟨by rfl, fun w' hw' => by exact exec_loadN 24 (.tmp 35) rfl _ rfl _ _ (load_one one_bytes (HZ.out _ (BX.out.trans (hw'.mono BX.out.size))))⟩) hS ?_
                  simp only [Act.put, List.setIfInBounds_toArray, List.set_cons_zero, List.set_cons_succ]
                  refine wpAnyH_ready (rs := [5, 6]) (by kernel_rfl) (by simp) ?_
                  refine AllReadyH.cons rfl (fun K hK => ?_) (AllReadyH.cons rfl (fun K hK => ?_) AllReadyH.nil)
                  · refine step_callW _ (by rfl) (some 37) rfl 32 #[.tmp 32, .tmp 36] #[23, 24] rfl (fun q w' => by rfl) #[.agg ([.int .i64 g0, .int .i64 g1, .int .i64 (S : Int), .int .i64 g3, .int .i64 g4, .int .i64 g5] : List Value).toArray, .slice zo zn zc] (by simp only [List.map_toArray, List.map_cons, List.map_nil]; rfl) (fun u w' => (∃ po pc uo uc, u = .agg (pg10 kd9 n9 c9 l9 e9 t9 (.slice po S pc) (.slice uo 32 uc) false true).toArray ∧ Byt w' (.slice po S pc) Q9) ∧ Below y1.heap.size y1 w') ?_ ?_
                    · exact (SB.out y1 (BX.out.trans (hS.mono BX.out.size))).mono fun e w' ⟨po, pc, uo, uc, h1, h2, h3⟩ => ⟨_, h1, ⟨po, pc, uo, uc, rfl, h2⟩, h3⟩
                    rintro _ y2 ⟨⟨po, pc, uo, uc, rfl, y9⟩, hb⟩
                    have HP : Hid (Byt y2 (.slice po S pc) Q9) := y9
                    clear y9
                    have hS : Below wx.heap.size wx y2 := hS.trans (hb.mono hS.size)
                    clear hb
                    refine hK.out _ _ hS (fun _ => ?_)
                    simp only [Act.put, List.setIfInBounds_toArray, List.set_cons_zero, List.set_cons_succ]
                    clear hK K
                    refine wpAnyH_ready (rs := [6]) (by kernel_rfl) (by simp) ?_
                    refine AllReadyH.cons rfl (fun K hK => ?_) AllReadyH.nil
                    refine step_newN _ rfl (some 8) rfl 70 rfl Z10 zero_rpage (pg10_nob _ _ _ _ _ _ _ _ _ _ _ _ _ _) ?_
                    intro y3 v9 nb9 hb
                    have HP : Hid (Byt y3 (.slice po S pc) Q9) := HP.out.below hb
                    have HV : Hid (Vr y3 y2.heap.size Z10) := v9
                    have NV : Hid (NoB y3 y2.heap.size) := nb9
                    have LV : Hid (wx.heap.size ≤ y2.heap.size) := hS.size
                    have hS : Below wx.heap.size wx y3 := hS.trans (hb.mono hS.size)
                    clear v9 nb9 hb
                    obtain ⟨gv, hg9⟩ : ∃ g, g = y2.heap.size := ⟨_, rfl⟩
                    rw [← hg9] at HV NV LV ⊢
                    clear hg9
                    refine hK.out _ _ hS (fun _ => ?_)
                    simp only [Act.put, List.setIfInBounds_toArray, List.set_cons_zero, List.set_cons_succ]
                    clear hK K
                    refine wpAnyH_ready (rs := [7]) (by kernel_rfl) (by simp) ?_
                    refine AllReadyH.cons rfl (fun K hK => ?_) AllReadyH.nil
                    refine step_storeN _ rfl none rfl (.tmp 8) (.tmp 37) 70 rfl gv Z10 (pg10 kd9 n9 c9 l9 e9 t9 (.slice po S pc) (.slice uo 32 uc) false true) rfl rfl HV.out NV.out rfl rowy_rpage.2 (pg10_one _ _ _ _ _ _ _ _ _ _ _ _ _ _) (pg10_nob _ _ _ _ _ _ _ _ _ _ _ _ _ _) ?_
                    intro y4 v9 nb9 B9 k9
                    have HP : Hid (Byt y4 (.slice po S pc) Q9) := byt_nob HP.out NV.out k9
                    have HV : Hid (Vr y4 gv (pg10 kd9 n9 c9 l9 e9 t9 (.slice po S pc) (.slice uo 32 uc) false true)) := v9
                    have hS : Below wx.heap.size wx y4 := hS.trans (B9.mono LV.out)
                    clear v9 nb9 B9 k9
                    refine hK.out _ _ hS (fun _ => ?_)
                    simp only [Act.put]
                    clear hK K
                    refine wpAnyH_done (by kernel_rfl) ?_ _
                    go_wp2_with fail
                    go_meet
                    exact ⟨gv, po, pc, uo, uc, rfl, HV.out, HP.out, LV.out, hS⟩
                  · refine step_newN _ rfl (some 8) rfl 70 rfl Z10 zero_rpage (pg10_nob _ _ _ _ _ _ _ _ _ _ _ _ _ _) ?_
                    intro y5 v9 nb9 hb
                    have HV : Hid (Vr y5 y1.heap.size Z10) := v9
                    have NV : Hid (NoB y5 y1.heap.size) := nb9
                    have LV : Hid (wx.heap.size ≤ y1.heap.size) := hS.size
                    have hS : Below wx.heap.size wx y5 := hS.trans (hb.mono hS.size)
                    clear v9 nb9 hb
                    obtain ⟨gv, hg9⟩ : ∃ g, g = y1.heap.size := ⟨_, rfl⟩
                    rw [← hg9] at HV NV LV ⊢
                    clear hg9
                    refine hK.out _ _ hS (fun _ => ?_)
                    simp only [Act.put, List.setIfInBounds_toArray, List.set_cons_zero, List.set_cons_succ]
                    clear hK K
                    refine wpAnyH_ready (rs := [5]) (by kernel_rfl) (by simp) ?_
                    refine AllReadyH.cons rfl (fun K hK => ?_) AllReadyH.nil
                    refine step_callW _ (by rfl) (some 37) rfl 32 #[.tmp 32, .tmp 36] #[23, 24] rfl (fun q w' => by rfl) #[.agg ([.int .i64 g0, .int .i64 g1, .int .i64 (S : Int), .int .i64 g3, .int .i64 g4, .int .i64 g5] : List Value).toArray, .slice zo zn zc] (by simp only [List.map_toArray, List.map_cons, List.map_nil]; rfl) (fun u w' => (∃ po pc uo uc, u = .agg (pg10 kd9 n9 c9 l9 e9 t9 (.slice po S pc) (.slice uo 32 uc) false true).toArray ∧ Byt w' (.slice po S pc) Q9) ∧ Below y5.heap.size y5 w') ?_ ?_
                    · exact (SB.out y5 (BX.out.trans (hS.mono BX.out.size))).mono fun e w' ⟨po, pc, uo, uc, h1, h2, h3⟩ => ⟨_, h1, ⟨po, pc, uo, uc, rfl, h2⟩, h3⟩
                    rintro _ y6 ⟨⟨po, pc, uo, uc, rfl, y9⟩, hb⟩
                    have HP : Hid (Byt y6 (.slice po S pc) Q9) := y9
                    have NV : Hid (NoB y6 gv) := NV.out.heap (hb.block _ (range_lt HV.out.1 (Nat.succ_pos _)))
                    have HV : Hid (Vr y6 gv Z10) := HV.out.below hb (range_lt HV.out.1 (Nat.succ_pos _))
                    clear y9
                    have hS : Below wx.heap.size wx y6 := hS.trans (hb.mono hS.size)
                    clear hb
                    refine hK.out _ _ hS (fun _ => ?_)
                    simp only [Act.put, List.setIfInBounds_toArray, List.set_cons_zero, List.set_cons_succ]
                    clear hK K
                    refine wpAnyH_ready (rs := [7]) (by kernel_rfl) (by simp) ?_
                    refine AllReadyH.cons rfl (fun K hK => ?_) AllReadyH.nil
                    refine step_storeN _ rfl none rfl (.tmp 8) (.tmp 37) 70 rfl gv Z10 (pg10 kd9 n9 c9 l9 e9 t9 (.slice po S pc) (.slice uo 32 uc) false true) rfl rfl HV.out NV.out rfl rowy_rpage.2 (pg10_one _ _ _ _ _ _ _ _ _ _ _ _ _ _) (pg10_nob _ _ _ _ _ _ _ _ _ _ _ _ _ _) ?_
                    intro y7 v9 nb9 B9 k9
                    have HP : Hid (Byt y7 (.slice po S pc) Q9) := byt_nob HP.out NV.out k9
                    have HV : Hid (Vr y7 gv (pg10 kd9 n9 c9 l9 e9 t9 (.slice po S pc) (.slice uo 32 uc) false true)) := v9
                    have hS : Below wx.heap.size wx y7 := hS.trans (B9.mono LV.out)
                    clear v9 nb9 B9 k9
                    refine hK.out _ _ hS (fun _ => ?_)
                    simp only [Act.put]
                    clear hK K
                    refine wpAnyH_done (by kernel_rfl) ?_ _
                    go_wp2_with fail
                    go_meet
                    exact ⟨gv, po, pc, uo, uc, rfl, HV.out, HP.out, LV.out, hS⟩
                case rest =>
                  obtain ⟨gv, po, pc, uo, uc, rfl, x1, x2, x3, x4⟩ := hcut
                  have HV : Hid (Vr wc gv (pg10 kd9 n9 c9 l9 e9 t9 (.slice po S pc) (.slice uo 32 uc) false true)) := x1
                  have HP : Hid (Byt wc (.slice po S pc) Q9) := x2
                  have LT8 : Hid (c6 < gv) := Nat.lt_of_lt_of_le (range_lt H6.out.1 (Nat.succ_pos _)) x3
                  have NB_H4 : Hid (NoB wc c4) := NB_H4.out.heap (x4.block _ (range_lt H4.out.1 (Nat.succ_pos _)))
                  have H4 : Hid (Vr wc c4 Z3) := H4.out.below x4 (range_lt H4.out.1 (Nat.succ_pos _))
                  have HB0 : Hid (Vr wc w.heap.size [.int .i64 g0, .int .i64 g1, .int .i64 (S : Int), .int .i64 g3, .int .i64 g4, .int .i64 g5]) := HB0.out.below x4 (range_lt HB0.out.1 (Nat.succ_pos _))
                  have NB_H6 : Hid (NoB wc c6) := NB_H6.out.heap (x4.block _ (range_lt H6.out.1 (Nat.succ_pos _)))
                  have H6 : Hid (Vr wc c6 (hdl G0 (.slice ro rn rc) true)) := H6.out.below x4 (range_lt H6.out.1 (Nat.succ_pos _))
                  have HY : Hid (Byt wc (.slice ro rn rc) (parts F k)) := HY.out.below x4
                  have BB : Hid (Below w.heap.size w wc) := BB.out.trans (x4.mono BB.out.size)
                  have hv_4 : wc.cell? ⟨gv, 4, none⟩ = some (.int .u64 e9) := HV.out.cell 4 _ rfl
                  clear x1 x2 x3 x4 HZ HZB BX SB
                  go_upto_if 39 with fail
                  go_cut [] (fun wc => Vr wc c6 (hdl KG (.slice ro rn rc) true) ∧ NoB wc c6 ∧ Vr wc w.heap.size [.int .i64 g0, .int .i64 g1, .int .i64 (S : Int), .int .i64 g3, .int .i64 g4, .int .i64 g5] ∧ (Vr wc c4 Z3 ∧ NoB wc c4) ∧ Vr wc gv (pg10 kd9 n9 c9 l9 e9 t9 (.slice po S pc) (.slice uo 32 uc) false true) ∧ Byt wc (.slice po S pc) Q9 ∧ Byt wc (.slice ro rn rc) (parts F k) ∧ Below w.heap.size w wc)
                  case first =>
                    by_cases hk0 : k = 0
                    · subst hk0
                      have t80 : (1 : Nat) = 1 := rfl
                      go_wp2_with (have q80 := t80; (with_reducible refine at_store ?_); refine set_lawK _ (hdl G0 (.slice ro rn rc) true) c6 0 (.int .u64 e9) rfl rfl H6.out NB_H6.out (show (0 : Nat) < 3 by decide) rfl rfl (fun y z => by cases z) one_u64.2 ?_; intro wd v9 nb9 B9 k9; have HP : Hid (Byt wd (.slice po S pc) Q9) := byt_nob HP.out NB_H6.out k9; have HY : Hid (Byt wd (.slice ro rn rc) (parts F 0)) := byt_nob HY.out NB_H6.out k9; have HB0 : Hid (Vr wd w.heap.size [.int .i64 g0, .int .i64 g1, .int .i64 (S : Int), .int .i64 g3, .int .i64 g4, .int .i64 g5]) := HB0.out.heap (k9 _ (Nat.ne_of_lt LT0.out)); have NB_H4 : Hid (NoB wd c4) := NB_H4.out.heap (k9 _ (Nat.ne_of_lt LT4.out)); have H4 : Hid (Vr wd c4 Z3) := H4.out.heap (k9 _ (Nat.ne_of_lt LT4.out)); have HV : Hid (Vr wd gv (pg10 kd9 n9 c9 l9 e9 t9 (.slice po S pc) (.slice uo 32 uc) false true)) := HV.out.heap (k9 _ (Nat.ne_of_gt LT8.out)); have H6 : Hid (Vr wd c6 (hdl e9 (.slice ro rn rc) true)) := v9; have NB_H6 : Hid (NoB wd c6) := nb9; have BB : Hid (Below w.heap.size w wd) := BB.out.trans (B9.mono (Nat.le_of_lt LT0.out)); clear v9 nb9 B9 k9 t80)
                      go_meet
                      exact ⟨(by have z := H6.out; rw [K0.out (by simp)] at z; exact z), NB_H6.out, HB0.out, ⟨H4.out, NB_H4.out⟩, HV.out, HP.out, HY.out, BB.out⟩
                    · have nk0 : ((k : Int) == 0) = false := beq_eq_false_iff_ne.2 (by omega)
                      go_wp2_with fail
                      go_meet
                      exact ⟨(by have z := H6.out; rw [GK.out (by omega)] at z; exact z), NB_H6.out, HB0.out, ⟨H4.out, NB_H4.out⟩, HV.out, HP.out, HY.out, BB.out⟩
                  case rest =>
                    obtain ⟨x1, x2, x3, ⟨x4, x5⟩, x6, x7, x8, x10⟩ := hcut
                    clear H6 NB_H6 HB0 H4 NB_H4 HV HP HY BB hv_4
                    have H6 : Hid (Vr wc c6 (hdl KG (.slice ro rn rc) true)) := x1
                    have NB_H6 : Hid (NoB wc c6) := x2
                    have HB0 : Hid (Vr wc w.heap.size [.int .i64 g0, .int .i64 g1, .int .i64 (S : Int), .int .i64 g3, .int .i64 g4, .int .i64 g5]) := x3
                    have H4 : Hid (Vr wc c4 Z3) := x4
                    have NB_H4 : Hid (NoB wc c4) := x5
                    have HV : Hid (Vr wc gv (pg10 kd9 n9 c9 l9 e9 t9 (.slice po S pc) (.slice uo 32 uc) false true)) := x6
                    have HP : Hid (Byt wc (.slice po S pc) Q9) := x7
                    have HY : Hid (Byt wc (.slice ro rn rc) (parts F k)) := x8
                    have BB : Hid (Below w.heap.size w wc) := x10
                    clear x1 x2 x3 x4 x5 x6 x7 x8 x10
                    go_wp2
                    refine wp_region_held_drew (S := fun w' => Below wc.heap.size wc w') (by kernel_rfl) (Below.refl _ _).drew (fun hS => ?_)
                    obtain ⟨y1, hx0⟩ : ∃ x, x = wc.drew := ⟨_, rfl⟩
                    rw [← hx0] at hS  ⊢
                    clear hx0
                    refine take_lawH 0 (some 44) (.pointer (some ⟨gv, 9, none⟩)) rfl rfl (by kernel_rfl) (by kernel_rfl) (by kernel_rfl) (fun _ _ _ h => h) (Or.inl ⟨by rfl, fun w' hw' => by go_simp⟩) hS ?_
                    simp only [Act.put, List.setIfInBounds_toArray, List.set_cons_zero, List.set_cons_succ]
                    refine take_lawH 1 (some 45) (.bool true) rfl rfl (by kernel_rfl) (by kernel_rfl) (by kernel_rfl) (fun _ _ _ h => h) (Or.inl ⟨by rfl, fun w' hw' => by exact exec_loadN 4 (.tmp 44) rfl _ rfl _ _ (load_one one_bool ((HV.out.below hw' (range_lt HV.out.1 (Nat.succ_pos _))).cell 9 _ rfl))⟩) hS ?_
                    simp only [Act.put, List.setIfInBounds_toArray, List.set_cons_zero, List.set_cons_succ]
                    refine take_lawH 2 (some 46) (.bool false) rfl rfl (by kernel_rfl) (by kernel_rfl) (by kernel_rfl) (fun _ _ _ h => h) (Or.inl ⟨by rfl, fun w' hw' => by exact exec_notB (.tmp 45) rfl true _ rfl rfl _⟩) hS ?_
                    simp only [Act.put, List.setIfInBounds_toArray, List.set_cons_zero, List.set_cons_succ]
                    refine take_lawH 3 (some 47) (.bool false) rfl rfl (by kernel_rfl) (by kernel_rfl) (by kernel_rfl) (fun _ _ _ h => h) (Or.inl ⟨by rfl, fun w' hw' => by rfl⟩) hS ?_
                    simp only [Act.put, List.setIfInBounds_toArray, List.set_cons_zero, List.set_cons_succ]
                    refine take_lawH 4 (some 48) (.pointer (some ⟨gv, 0, none⟩)) rfl rfl (by kernel_rfl) (by kernel_rfl) (by kernel_rfl) (fun _ _ _ h => h) (Or.inl ⟨by rfl, fun w' hw' => by go_simp⟩) hS ?_
                    simp only [Act.put, List.setIfInBounds_toArray, List.set_cons_zero, List.set_cons_succ]
                    refine take_lawH 5 (some 49) (.agg (hv kd9 n9 c9 l9 e9 t9).toArray) rfl rfl (by kernel_rfl) (by kernel_rfl) (by kernel_rfl) (fun _ _ _ h => h) (Or.inl ⟨by rfl, fun w' hw' => by exact exec_loadN 57 (.tmp 48) rfl _ rfl _ _ (load_cells rowy_head (range_head10 (HV.out.below hw' (range_lt HV.out.1 (Nat.succ_pos _))).1))⟩) hS ?_
                    simp only [Act.put, List.setIfInBounds_toArray, List.set_cons_zero, List.set_cons_succ]
                    refine take_lawH 6 (some 50) (.agg ([.int .i64 g0, .int .i64 g1, .int .i64 (S : Int), .int .i64 g3, .int .i64 g4, .int .i64 g5] : List Value).toArray) rfl rfl (by kernel_rfl) (by kernel_rfl) (by kernel_rfl) (fun _ _ _ h => h) (Or.inl ⟨by rfl, fun w' hw' => by exact exec_loadN 23 (.tmp 2) rfl _ rfl _ _ (load_cells rowy_geo (HB0.out.below hw' (range_lt HB0.out.1 (Nat.succ_pos _))).1)⟩) hS ?_
                    simp only [Act.put, List.setIfInBounds_toArray, List.set_cons_zero, List.set_cons_succ]
                    refine take_lawH 7 (some 51) (.int .i64 (k : Int)) rfl rfl (by kernel_rfl) (by kernel_rfl) (by kernel_rfl) (fun _ _ _ h => h) (Or.inl ⟨by rfl, fun w' hw' => by rfl⟩) hS ?_
                    simp only [Act.put, List.setIfInBounds_toArray, List.set_cons_zero, List.set_cons_succ]
                    refine take_lawH 8 (some 52) (.pointer (some ⟨c6, 0, none⟩)) rfl rfl (by kernel_rfl) (by kernel_rfl) (by kernel_rfl) (fun _ _ _ h => h) (Or.inl ⟨by rfl, fun w' hw' => by go_simp⟩) hS ?_
                    simp only [Act.put, List.setIfInBounds_toArray, List.set_cons_zero, List.set_cons_succ]
                    refine take_lawH 9 (some 53) (.int .u64 KG) rfl rfl (by kernel_rfl) (by kernel_rfl) (by kernel_rfl) (fun _ _ _ h => h) (Or.inl ⟨by rfl, fun w' hw' => by exact exec_loadN 25 (.tmp 52) rfl _ rfl _ _ (load_one one_u64 ((H6.out.below hw' (range_lt H6.out.1 (Nat.succ_pos _))).cell 0 _ rfl))⟩) hS ?_
                    simp only [Act.put, List.setIfInBounds_toArray, List.set_cons_zero, List.set_cons_succ]
                    refine wpAnyH_ready (rs := [10]) (by kernel_rfl) (by simp) ?_
                    refine AllReadyH.cons rfl (fun K hK => ?_) AllReadyH.nil
                    refine step_callW _ (by rfl) (some 54) rfl 28 #[.tmp 50, .tmp 51, .tmp 53] #[23, 3, 25] rfl (fun q w' => by rfl) #[.agg ([.int .i64 g0, .int .i64 g1, .int .i64 (S : Int), .int .i64 g3, .int .i64 g4, .int .i64 g5] : List Value).toArray, .int .i64 (k : Int), .int .u64 KG] (by simp only [List.map_toArray, List.map_cons, List.map_nil]; rfl) (fun u w' => u = .agg (hv 4 (k : Int) 0 (N : Int) KG 0).toArray ∧ Below y1.heap.size y1 w') ?_ ?_
                    · exact (SH.out y1).mono fun e w' ⟨h1, h2⟩ => ⟨_, h1, rfl, h2⟩
                    rintro _ y2 ⟨rfl, hb⟩
                    have hS : Below wc.heap.size wc y2 := hS.trans (hb.mono hS.size)
                    clear hb
                    refine hK.out _ _ hS (fun _ => ?_)
                    simp only [Act.put, List.setIfInBounds_toArray, List.set_cons_zero, List.set_cons_succ]
                    clear hK K
                    refine take_lawH 11 (some 55) (.bool false) rfl rfl (by kernel_rfl) (by kernel_rfl) (by kernel_rfl) (fun _ _ _ h => h) (Or.inl ⟨by rfl, fun w' hw' => by exact exec_neqH (.tmp 49) (.tmp 54) rfl kd9 n9 c9 l9 e9 t9 4 (k : Int) 0 (N : Int) KG 0 rfl rfl false HQ.out _⟩) hS ?_
                    simp only [Act.put, List.setIfInBounds_toArray, List.set_cons_zero, List.set_cons_succ]
                    refine take_lawH 12 (some 56) (.bool false) rfl rfl (by kernel_rfl) (by kernel_rfl) (by kernel_rfl) (fun _ _ _ h => h) (Or.inl ⟨by rfl, fun w' hw' => by rfl⟩) hS ?_
                    simp only [Act.put, List.setIfInBounds_toArray, List.set_cons_zero, List.set_cons_succ]
                    refine take_lawH 13 (some 57) (.bool false) rfl rfl (by kernel_rfl) (by kernel_rfl) (by kernel_rfl) (fun _ _ _ h => h) (Or.inl ⟨by rfl, fun w' hw' => by rfl⟩) hS ?_
                    simp only [Act.put, List.setIfInBounds_toArray, List.set_cons_zero, List.set_cons_succ]
                    refine take_lawH 14 (some 58) (.int .i64 (k : Int)) rfl rfl (by kernel_rfl) (by kernel_rfl) (by kernel_rfl) (fun _ _ _ h => h) (Or.inl ⟨by rfl, fun w' hw' => by rfl⟩) hS ?_
                    simp only [Act.put, List.setIfInBounds_toArray, List.set_cons_zero, List.set_cons_succ]
                    refine take_lawH 15 (some 59) (.int .i64 (N : Int)) rfl rfl (by kernel_rfl) (by kernel_rfl) (by kernel_rfl) (fun _ _ _ h => h) (Or.inl ⟨by rfl, fun w' hw' => by rfl⟩) hS ?_
                    simp only [Act.put, List.setIfInBounds_toArray, List.set_cons_zero, List.set_cons_succ]
                    refine take_lawH 16 (some 60) (.int .i64 ((N - 1 : Nat) : Int)) rfl rfl (by kernel_rfl) (by kernel_rfl) (by kernel_rfl) (fun _ _ _ h => h) (Or.inl ⟨by rfl, fun w' hw' => by exact exec_sub (.tmp 59) (.const (.int .i64 1)) rfl (N : Int) 1 _ rfl rfl N1.out⟩) hS ?_
                    simp only [Act.put, List.setIfInBounds_toArray, List.set_cons_zero, List.set_cons_succ]
                    refine take_lawH 17 (some 61) (.bool true) rfl rfl (by kernel_rfl) (by kernel_rfl) (by kernel_rfl) (fun _ _ _ h => h) (Or.inl ⟨by rfl, fun w' hw' => by exact exec_eqlI (.tmp 58) (.tmp 60) rfl (k : Int) ((N - 1 : Nat) : Int) rfl rfl true KL.out _⟩) hS ?_
                    simp only [Act.put, List.setIfInBounds_toArray, List.set_cons_zero, List.set_cons_succ]
                    refine take_lawH 18 (some 62) (.bool true) rfl rfl (by kernel_rfl) (by kernel_rfl) (by kernel_rfl) (fun _ _ _ h => h) (Or.inl ⟨by rfl, fun w' hw' => by rfl⟩) hS ?_
                    simp only [Act.put, List.setIfInBounds_toArray, List.set_cons_zero, List.set_cons_succ]
                    refine take_lawH 19 (some 63) (.pointer (some ⟨gv, 8, none⟩)) rfl rfl (by kernel_rfl) (by kernel_rfl) (by kernel_rfl) (fun _ _ _ h => h) (Or.inl ⟨by rfl, fun w' hw' => by go_simp⟩) hS ?_
                    simp only [Act.put, List.setIfInBounds_toArray, List.set_cons_zero, List.set_cons_succ]
                    refine take_lawH 20 (some 64) (.bool false) rfl rfl (by kernel_rfl) (by kernel_rfl) (by kernel_rfl) (fun _ _ _ h => h) (Or.inl ⟨by rfl, fun w' hw' => by exact exec_loadN 4 (.tmp 63) rfl _ rfl _ _ (load_one one_bool ((HV.out.below hw' (range_lt HV.out.1 (Nat.succ_pos _))).cell 8 _ rfl))⟩) hS ?_
                    simp only [Act.put, List.setIfInBounds_toArray, List.set_cons_zero, List.set_cons_succ]
                    refine take_lawH 21 (some 65) (.bool true) rfl rfl (by kernel_rfl) (by kernel_rfl) (by kernel_rfl) (fun _ _ _ h => h) (Or.inl ⟨by rfl, fun w' hw' => by exact exec_notB (.tmp 64) rfl false _ rfl rfl _⟩) hS ?_
                    simp only [Act.put, List.setIfInBounds_toArray, List.set_cons_zero, List.set_cons_succ]
                    refine take_lawH 22 (some 66) (.bool true) rfl rfl (by kernel_rfl) (by kernel_rfl) (by kernel_rfl) (fun _ _ _ h => h) (Or.inl ⟨by rfl, fun w' hw' => by rfl⟩) hS ?_
                    simp only [Act.put, List.setIfInBounds_toArray, List.set_cons_zero, List.set_cons_succ]
                    refine take_lawH 23 (some 67) (.bool true) rfl rfl (by kernel_rfl) (by kernel_rfl) (by kernel_rfl) (fun _ _ _ h => h) (Or.inl ⟨by rfl, fun w' hw' => by rfl⟩) hS ?_
                    simp only [Act.put, List.setIfInBounds_toArray, List.set_cons_zero, List.set_cons_succ]
                    refine wpAnyH_done (by kernel_rfl) ?_ _
                    have NB_H4 : Hid (NoB y2 c4) := NB_H4.out.heap (hS.block _ (range_lt H4.out.1 (Nat.succ_pos _)))
                    have H4 : Hid (Vr y2 c4 Z3) := H4.out.below hS (range_lt H4.out.1 (Nat.succ_pos _))
                    have BB : Hid (Below w.heap.size w y2) := BB.out.trans (hS.mono BB.out.size)
                    clear hS
                    have t80 : (1 : Nat) = 1 := rfl
                    go_wp2_with (first
                      | (have q81 := t81; (with_reducible refine at_store ?_); refine store_lawC _ Z3 c4 0 rfl rfl H4.out.2 rowy_held.2 (hdl_one _ _ _ _ _) ?_; intro w91 E9 R9 T9 B9; have K9 : ∀ k, k ≠ c4 → w91.heap[k]? = y2.heap[k]? := (by rw [E9.out]; exact fun k hk => heap_cells _ _ _ _ k hk); have NB_H4 : Hid (NoB w91 c4) := (by rw [E9.out]; exact NB_H4.out.set H4.out rfl (hdl_nob _ _ _ _ _)); have H4 : Hid (Vr w91 c4 Z3) := ⟨R9, T9⟩; have BB : Hid (Below w.heap.size w w91) := BB.out.trans (B9.mono LE4.out); clear E9 R9 T9 B9 K9; clear t81; have t82 : (1 : Nat) = 1 := rfl)
                      | (have q80 := t80; refine build_law _ rfl 39 _ rfl (.agg Z3.toArray) (by kernel_rfl) ?_; clear t80; have t81 : (1 : Nat) = 1 := rfl))
                    exact bodyPost_ret (v := .agg Z3.toArray) (results_c rfl _ _ c4 _ rowy_held rfl H4.out.1) rfl ⟨.inr ⟨NK.out, rfl⟩, BB.out⟩
            · have SB : Hid (∀ w0, Below wr.heap.size wr w0 → Calls Tryd.prog 32 #[.agg (ints .i64 [g0, g1, (S : Int), g3, g4, g5]), .slice zo zn zc] w0 fun x w' => ∃ po pc uo uc, x = .returned (.agg (pg10 (qk ((ls.getD k []).drop S)) (qn ((ls.getD k []).drop S)) (he.qc ((ls.getD k []).drop S)) (ql ((ls.getD k []).drop S)) (qe ((ls.getD k []).drop S)) (qt ((ls.getD k []).drop S)) (.slice po S pc) (.slice uo 32 uc) (decide (((ls.getD k []).drop S).drop 80 = List.replicate 8 0)) true).toArray) ∧ Byt w' (.slice po S pc) ((ls.getD k []).take S) ∧ Below w0.heap.size w0 w') := fun w0 q => (rpread_yes g0 g1 g3 g4 g5 S _ _ w0 (HZB.out.below q) (by rw [EN.out]; exact hl) ht).mono fun x w' ⟨po, pc, uo, uc, h1, h2, _, h4⟩ => ⟨po, pc, uo, uc, h1, h2, h4⟩
              have K0 : Hid (k = 0 → qe ((ls.getD k []).drop S) = KG) := fun h => (by rw [h]; exact HG0.out.symm)
              have HQ : Hid ((!decide (qk ((ls.getD k []).drop S) = 4 ∧ qn ((ls.getD k []).drop S) = (k : Int) ∧ he.qc ((ls.getD k []).drop S) = 0 ∧ ql ((ls.getD k []).drop S) = (N : Int) ∧ qe ((ls.getD k []).drop S) = KG ∧ qt ((ls.getD k []).drop S) = 0)) = false) := (by show _ = _; rw [decide_eq_true hh]; rfl)
              have KK : Hid (Kpg S KG k (ls.getD k [])) := ⟨by rw [EN.out]; exact hl, ht, hh.1, hh.2.1, hh.2.2.1, by rw [EK.out]; exact hh.2.2.2.1, hh.2.2.2.2.1, hh.2.2.2.2.2⟩
              have JN : Hid (∀ j, j < k + 1 → Kpg S KG j (ls.getD j [])) := fun j hj => (by
                by_cases e : j = k
                · rw [e]; exact KK.out
                · exact HJ.out j (by omega))
              have KC : Hid (k + 1 = N → Kcm S (ls.getD (N - 1) [])) := fun h => absurd h (by omega)
              have KL : Hid (((k : Int) == ((N - 1 : Nat) : Int)) = false) := beq_eq_false_iff_ne.2 (by omega)
              clear hkl
              have PL : Hid ((parts F k).length ≤ 1099511627776 ∧ ((ls.getD k []).take S).length ≤ 1099511627776) := (by
                have e : (parts F k).length = k * S := parts_len (n := k) (fun i hi => by rw [EF.out, List.length_take, (HJ.out i hi).1]; omega) k (Nat.le_refl _)
                have := mul_small (k := k) (S := S) (by omega) s4
                have : ((ls.getD k []).take S).length ≤ S := by rw [List.length_take]; omega
                exact ⟨by omega, by omega⟩)
              have QE : Hid (parts F k ++ (ls.getD k []).take S = parts F (k + 1)) := (by show _ = _; rw [← EF.out]; rfl)
              have QA : Hid (AllB (parts F k ++ (ls.getD k []).take S)) := allB_app HY.out.all (allB_take HZB.out.all S)
              generalize qk ((ls.getD k []).drop S) = kd9 at SB HQ
              generalize qn ((ls.getD k []).drop S) = n9 at SB HQ
              generalize he.qc ((ls.getD k []).drop S) = c9 at SB HQ
              generalize ql ((ls.getD k []).drop S) = l9 at SB HQ
              generalize qe ((ls.getD k []).drop S) = e9 at SB HQ K0
              generalize qt ((ls.getD k []).drop S) = t9 at SB HQ
              generalize decide (((ls.getD k []).drop S).drop 80 = List.replicate 8 0) = d9 at SB
              generalize (ls.getD k []).take S = Q9 at SB PL QE QA
              clear hh ht hl
              have ZB : Hid (((zn : Int) != (S : Int) + 88) = false) := ZB0.out
              go_wp2
              refine wp_region_held_drew (S := fun w' => Below wr.heap.size wr w') (by kernel_rfl) (Below.refl _ _).drew (fun hS => ?_)
              obtain ⟨x1, hx0⟩ : ∃ x, x = wr.drew := ⟨_, rfl⟩
              rw [← hx0] at hS  ⊢
              clear hx0
              refine take_lawH 0 (some 22) (.slice (some ⟨b, off, none⟩) n cap) rfl rfl (by kernel_rfl) (by kernel_rfl) (by kernel_rfl) (fun _ _ _ h => h) (Or.inl ⟨by rfl, fun w' hw' => by rfl⟩) hS ?_
              simp only [Act.put, List.setIfInBounds_toArray, List.set_cons_zero, List.set_cons_succ]
              refine take_lawH 1 (some 23) (.int .i64 (k : Int)) rfl rfl (by kernel_rfl) (by kernel_rfl) (by kernel_rfl) (fun _ _ _ h => h) (Or.inl ⟨by rfl, fun w' hw' => by rfl⟩) hS ?_
              simp only [Act.put, List.setIfInBounds_toArray, List.set_cons_zero, List.set_cons_succ]
              refine take_lawH 2 (some 24) (.pointer (some ⟨b, off + k, none⟩)) rfl rfl (by kernel_rfl) (by kernel_rfl) (by kernel_rfl) (fun _ _ _ h => h) (Or.inl ⟨by rfl, fun w' hw' => by exact exec_idxR (.tmp 22) (.tmp 23) rfl b off n cap k rfl rfl KN.out _⟩) hS ?_
              simp only [Act.put, List.setIfInBounds_toArray, List.set_cons_zero, List.set_cons_succ]
              refine take_lawH 3 (some 25) (.slice zo zn zc) rfl rfl (by kernel_rfl) (by kernel_rfl) (by kernel_rfl) (fun _ _ _ h => h) (Or.inl ⟨by rfl, fun w' hw' => by exact exec_loadN 24 (.tmp 24) rfl _ rfl _ _ (load_one one_bytes (HZ.out _ hw'))⟩) hS ?_
              simp only [Act.put, List.setIfInBounds_toArray, List.set_cons_zero, List.set_cons_succ]
              refine take_lawH 4 (some 26) (.int .i64 (zn : Int)) rfl rfl (by kernel_rfl) (by kernel_rfl) (by kernel_rfl) (fun _ _ _ h => h) (Or.inl ⟨by rfl, fun w' hw' => by exact exec_lenB (.tmp 25) rfl zo zn zc rfl _⟩) hS ?_
              simp only [Act.put, List.setIfInBounds_toArray, List.set_cons_zero, List.set_cons_succ]
              refine take_lawH 5 (some 27) (.pointer (some ⟨w.heap.size, 2, none⟩)) rfl rfl (by kernel_rfl) (by kernel_rfl) (by kernel_rfl) (fun _ _ _ h => h) (Or.inl ⟨by rfl, fun w' hw' => by go_simp⟩) hS ?_
              simp only [Act.put, List.setIfInBounds_toArray, List.set_cons_zero, List.set_cons_succ]
              refine take_lawH 6 (some 28) (.int .i64 (S : Int)) rfl rfl (by kernel_rfl) (by kernel_rfl) (by kernel_rfl) (fun _ _ _ h => h) (Or.inl ⟨by rfl, fun w' hw' => by exact exec_loadN 3 (.tmp 27) rfl _ rfl _ _ (ld_int ((HB0.out.below hw' (range_lt HB0.out.1 (Nat.succ_pos _))).cell 2 _ rfl))⟩) hS ?_
              simp only [Act.put, List.setIfInBounds_toArray, List.set_cons_zero, List.set_cons_succ]
              refine take_lawH 7 (some 29) (.int .i64 ((S : Int) + 88)) rfl rfl (by kernel_rfl) (by kernel_rfl) (by kernel_rfl) (fun _ _ _ h => h) (Or.inl ⟨by rfl, fun w' hw' => by exact exec_add (.tmp 28) (.const (.int .i64 88)) rfl (S : Int) 88 _ rfl rfl S88.out⟩) hS ?_
              simp only [Act.put, List.setIfInBounds_toArray, List.set_cons_zero, List.set_cons_succ]
              refine take_lawH 8 (some 30) (.bool false) rfl rfl (by kernel_rfl) (by kernel_rfl) (by kernel_rfl) (fun _ _ _ h => h) (Or.inl ⟨by rfl, fun w' hw' => by exact exec_neqI (.tmp 26) (.tmp 29) rfl (zn : Int) ((S : Int) + 88) rfl rfl false ZB.out _⟩) hS ?_
              simp only [Act.put, List.setIfInBounds_toArray, List.set_cons_zero, List.set_cons_succ]
              refine wpAnyH_done (by kernel_rfl) ?_ _
              obtain ⟨wx, ex⟩ : ∃ q, q = x1 := ⟨_, rfl⟩
              rw [← ex] at hS ⊢
              clear ex
              have NB_H4 : Hid (NoB wx c4) := NB_H4.out.heap (hS.block _ (range_lt H4.out.1 (Nat.succ_pos _)))
              have H4 : Hid (Vr wx c4 Z3) := H4.out.below hS (range_lt H4.out.1 (Nat.succ_pos _))
              have HB0 : Hid (Vr wx w.heap.size [.int .i64 g0, .int .i64 g1, .int .i64 (S : Int), .int .i64 g3, .int .i64 g4, .int .i64 g5]) := HB0.out.below hS (range_lt HB0.out.1 (Nat.succ_pos _))
              have NB_H6 : Hid (NoB wx c6) := NB_H6.out.heap (hS.block _ (range_lt H6.out.1 (Nat.succ_pos _)))
              have H6 : Hid (Vr wx c6 (hdl G0 (.slice ro rn rc) true)) := H6.out.below hS (range_lt H6.out.1 (Nat.succ_pos _))
              have HY : Hid (Byt wx (.slice ro rn rc) (parts F k)) := HY.out.below hS
              have BX : Hid (Below wr.heap.size wr wx) := hS
              have BB : Hid (Below w.heap.size w wx) := BB.out.trans (hS.mono BB.out.size)
              clear hS
              go_wp2
              have t1 : (1 : Nat) = 1 := rfl
              go_cut [8] (fun r8 wc => ∃ (gv : Nat) (po : Option Addr) (pc : Nat) (uo : Option Addr) (uc : Nat), r8 = .pointer (some ⟨gv, 0, none⟩) ∧ Vr wc gv (pg10 kd9 n9 c9 l9 e9 t9 (.slice po S pc) (.slice uo 32 uc) d9 true) ∧ Byt wc (.slice po S pc) Q9 ∧ wx.heap.size ≤ gv ∧ Below wx.heap.size wx wc)
              case first =>
                refine wp_region_held_drew (S := fun w' => Below wx.heap.size wx w') (by kernel_rfl) (Below.refl _ _).drew (fun hS => ?_)
                obtain ⟨y1, hx0⟩ : ∃ x, x = wx.drew := ⟨_, rfl⟩
                rw [← hx0] at hS  ⊢
                clear hx0
                refine take_lawH 0 (some 32) (.agg ([.int .i64 g0, .int .i64 g1, .int .i64 (S : Int), .int .i64 g3, .int .i64 g4, .int .i64 g5] : List Value).toArray) rfl rfl (by kernel_rfl) (by kernel_rfl) (by kernel_rfl) (fun _ _ _ h => h) (Or.inl ⟨by rfl, fun w' hw' => by exact exec_loadN 23 (.tmp 2) rfl _ rfl _ _ (load_cells rowy_geo (HB0.out.below hw' (range_lt HB0.out.1 (Nat.succ_pos _))).1)⟩) hS ?_
                simp only [Act.put, List.setIfInBounds_toArray, List.set_cons_zero, List.set_cons_succ]
                refine take_lawH 1 (some 33) (.slice (some ⟨b, off, none⟩) n cap) rfl rfl (by kernel_rfl) (by kernel_rfl) (by kernel_rfl) (fun _ _ _ h => h) (Or.inl ⟨by rfl, fun w' hw' => by rfl⟩) hS ?_
                simp only [Act.put, List.setIfInBounds_toArray, List.set_cons_zero, List.set_cons_succ]
                refine take_lawH 2 (some 34) (.int .i64 (k : Int)) rfl rfl (by kernel_rfl) (by kernel_rfl) (by kernel_rfl) (fun _ _ _ h => h) (Or.inl ⟨by rfl, fun w' hw' => by rfl⟩) hS ?_
                simp only [Act.put, List.setIfInBounds_toArray, List.set_cons_zero, List.set_cons_succ]
                refine take_lawH 3 (some 35) (.pointer (some ⟨b, off + k, none⟩)) rfl rfl (by kernel_rfl) (by kernel_rfl) (by kernel_rfl) (fun _ _ _ h => h) (Or.inl ⟨by rfl, fun w' hw' => by exact exec_idxR (.tmp 33) (.tmp 34) rfl b off n cap k rfl rfl KN.out _⟩) hS ?_
                simp only [Act.put, List.setIfInBounds_toArray, List.set_cons_zero, List.set_cons_succ]
                refine take_lawH 4 (some 36) (.slice zo zn zc) rfl rfl (by kernel_rfl) (by kernel_rfl) (by kernel_rfl) (fun _ _ _ h => h) (Or.inl ⟨by rfl, fun w' hw' => by exact exec_loadN 24 (.tmp 35) rfl _ rfl _ _ (load_one one_bytes (HZ.out _ (BX.out.trans (hw'.mono BX.out.size))))⟩) hS ?_
                simp only [Act.put, List.setIfInBounds_toArray, List.set_cons_zero, List.set_cons_succ]
                refine wpAnyH_ready (rs := [5, 6]) (by kernel_rfl) (by simp) ?_
                refine AllReadyH.cons rfl (fun K hK => ?_) (AllReadyH.cons rfl (fun K hK => ?_) AllReadyH.nil)
                · refine step_callW _ (by rfl) (some 37) rfl 32 #[.tmp 32, .tmp 36] #[23, 24] rfl (fun q w' => by rfl) #[.agg ([.int .i64 g0, .int .i64 g1, .int .i64 (S : Int), .int .i64 g3, .int .i64 g4, .int .i64 g5] : List Value).toArray, .slice zo zn zc] (by simp only [List.map_toArray, List.map_cons, List.map_nil]; rfl) (fun u w' => (∃ po pc uo uc, u = .agg (pg10 kd9 n9 c9 l9 e9 t9 (.slice po S pc) (.slice uo 32 uc) d9 true).toArray ∧ Byt w' (.slice po S pc) Q9) ∧ Below y1.heap.size y1 w') ?_ ?_
                  · exact (SB.out y1 (BX.out.trans (hS.mono BX.out.size))).mono fun e w' ⟨po, pc, uo, uc, h1, h2, h3⟩ => ⟨_, h1, ⟨po, pc, uo, uc, rfl, h2⟩, h3⟩
                  rintro _ y2 ⟨⟨po, pc, uo, uc, rfl, y9⟩, hb⟩
                  have HP : Hid (Byt y2 (.slice po S pc) Q9) := y9
                  clear y9
                  have hS : Below wx.heap.size wx y2 := hS.trans (hb.mono hS.size)
                  clear hb
                  refine hK.out _ _ hS (fun _ => ?_)
                  simp only [Act.put, List.setIfInBounds_toArray, List.set_cons_zero, List.set_cons_succ]
                  clear hK K
                  refine wpAnyH_ready (rs := [6]) (by kernel_rfl) (by simp) ?_
                  refine AllReadyH.cons rfl (fun K hK => ?_) AllReadyH.nil
                  refine step_newN _ rfl (some 8) rfl 70 rfl Z10 zero_rpage (pg10_nob _ _ _ _ _ _ _ _ _ _ _ _ _ _) ?_
                  intro y3 v9 nb9 hb
                  have HP : Hid (Byt y3 (.slice po S pc) Q9) := HP.out.below hb
                  have HV : Hid (Vr y3 y2.heap.size Z10) := v9
                  have NV : Hid (NoB y3 y2.heap.size) := nb9
                  have LV : Hid (wx.heap.size ≤ y2.heap.size) := hS.size
                  have hS : Below wx.heap.size wx y3 := hS.trans (hb.mono hS.size)
                  clear v9 nb9 hb
                  obtain ⟨gv, hg9⟩ : ∃ g, g = y2.heap.size := ⟨_, rfl⟩
                  rw [← hg9] at HV NV LV ⊢
                  clear hg9
                  refine hK.out _ _ hS (fun _ => ?_)
                  simp only [Act.put, List.setIfInBounds_toArray, List.set_cons_zero, List.set_cons_succ]
                  clear hK K
                  refine wpAnyH_ready (rs := [7]) (by kernel_rfl) (by simp) ?_
                  refine AllReadyH.cons rfl (fun K hK => ?_) AllReadyH.nil
                  refine step_storeN _ rfl none rfl (.tmp 8) (.tmp 37) 70 rfl gv Z10 (pg10 kd9 n9 c9 l9 e9 t9 (.slice po S pc) (.slice uo 32 uc) d9 true) rfl rfl HV.out NV.out rfl rowy_rpage.2 (pg10_one _ _ _ _ _ _ _ _ _ _ _ _ _ _) (pg10_nob _ _ _ _ _ _ _ _ _ _ _ _ _ _) ?_
                  intro y4 v9 nb9 B9 k9
                  have HP : Hid (Byt y4 (.slice po S pc) Q9) := byt_nob HP.out NV.out k9
                  have HV : Hid (Vr y4 gv (pg10 kd9 n9 c9 l9 e9 t9 (.slice po S pc) (.slice uo 32 uc) d9 true)) := v9
                  have hS : Below wx.heap.size wx y4 := hS.trans (B9.mono LV.out)
                  clear v9 nb9 B9 k9
                  refine hK.out _ _ hS (fun _ => ?_)
                  simp only [Act.put]
                  clear hK K
                  refine wpAnyH_done (by kernel_rfl) ?_ _
                  go_wp2_with fail
                  go_meet
                  exact ⟨gv, po, pc, uo, uc, rfl, HV.out, HP.out, LV.out, hS⟩
                · refine step_newN _ rfl (some 8) rfl 70 rfl Z10 zero_rpage (pg10_nob _ _ _ _ _ _ _ _ _ _ _ _ _ _) ?_
                  intro y5 v9 nb9 hb
                  have HV : Hid (Vr y5 y1.heap.size Z10) := v9
                  have NV : Hid (NoB y5 y1.heap.size) := nb9
                  have LV : Hid (wx.heap.size ≤ y1.heap.size) := hS.size
                  have hS : Below wx.heap.size wx y5 := hS.trans (hb.mono hS.size)
                  clear v9 nb9 hb
                  obtain ⟨gv, hg9⟩ : ∃ g, g = y1.heap.size := ⟨_, rfl⟩
                  rw [← hg9] at HV NV LV ⊢
                  clear hg9
                  refine hK.out _ _ hS (fun _ => ?_)
                  simp only [Act.put, List.setIfInBounds_toArray, List.set_cons_zero, List.set_cons_succ]
                  clear hK K
                  refine wpAnyH_ready (rs := [5]) (by kernel_rfl) (by simp) ?_
                  refine AllReadyH.cons rfl (fun K hK => ?_) AllReadyH.nil
                  refine step_callW _ (by rfl) (some 37) rfl 32 #[.tmp 32, .tmp 36] #[23, 24] rfl (fun q w' => by rfl) #[.agg ([.int .i64 g0, .int .i64 g1, .int .i64 (S : Int), .int .i64 g3, .int .i64 g4, .int .i64 g5] : List Value).toArray, .slice zo zn zc] (by simp only [List.map_toArray, List.map_cons, List.map_nil]; rfl) (fun u w' => (∃ po pc uo uc, u = .agg (pg10 kd9 n9 c9 l9 e9 t9 (.slice po S pc) (.slice uo 32 uc) d9 true).toArray ∧ Byt w' (.slice po S pc) Q9) ∧ Below y5.heap.size y5 w') ?_ ?_
                  · exact (SB.out y5 (BX.out.trans (hS.mono BX.out.size))).mono fun e w' ⟨po, pc, uo, uc, h1, h2, h3⟩ => ⟨_, h1, ⟨po, pc, uo, uc, rfl, h2⟩, h3⟩
                  rintro _ y6 ⟨⟨po, pc, uo, uc, rfl, y9⟩, hb⟩
                  have HP : Hid (Byt y6 (.slice po S pc) Q9) := y9
                  have NV : Hid (NoB y6 gv) := NV.out.heap (hb.block _ (range_lt HV.out.1 (Nat.succ_pos _)))
                  have HV : Hid (Vr y6 gv Z10) := HV.out.below hb (range_lt HV.out.1 (Nat.succ_pos _))
                  clear y9
                  have hS : Below wx.heap.size wx y6 := hS.trans (hb.mono hS.size)
                  clear hb
                  refine hK.out _ _ hS (fun _ => ?_)
                  simp only [Act.put, List.setIfInBounds_toArray, List.set_cons_zero, List.set_cons_succ]
                  clear hK K
                  refine wpAnyH_ready (rs := [7]) (by kernel_rfl) (by simp) ?_
                  refine AllReadyH.cons rfl (fun K hK => ?_) AllReadyH.nil
                  refine step_storeN _ rfl none rfl (.tmp 8) (.tmp 37) 70 rfl gv Z10 (pg10 kd9 n9 c9 l9 e9 t9 (.slice po S pc) (.slice uo 32 uc) d9 true) rfl rfl HV.out NV.out rfl rowy_rpage.2 (pg10_one _ _ _ _ _ _ _ _ _ _ _ _ _ _) (pg10_nob _ _ _ _ _ _ _ _ _ _ _ _ _ _) ?_
                  intro y7 v9 nb9 B9 k9
                  have HP : Hid (Byt y7 (.slice po S pc) Q9) := byt_nob HP.out NV.out k9
                  have HV : Hid (Vr y7 gv (pg10 kd9 n9 c9 l9 e9 t9 (.slice po S pc) (.slice uo 32 uc) d9 true)) := v9
                  have hS : Below wx.heap.size wx y7 := hS.trans (B9.mono LV.out)
                  clear v9 nb9 B9 k9
                  refine hK.out _ _ hS (fun _ => ?_)
                  simp only [Act.put]
                  clear hK K
                  refine wpAnyH_done (by kernel_rfl) ?_ _
                  go_wp2_with fail
                  go_meet
                  exact ⟨gv, po, pc, uo, uc, rfl, HV.out, HP.out, LV.out, hS⟩
              case rest =>
                obtain ⟨gv, po, pc, uo, uc, rfl, x1, x2, x3, x4⟩ := hcut
                have HV : Hid (Vr wc gv (pg10 kd9 n9 c9 l9 e9 t9 (.slice po S pc) (.slice uo 32 uc) d9 true)) := x1
                have HP : Hid (Byt wc (.slice po S pc) Q9) := x2
                have LT8 : Hid (c6 < gv) := Nat.lt_of_lt_of_le (range_lt H6.out.1 (Nat.succ_pos _)) x3
                have NB_H4 : Hid (NoB wc c4) := NB_H4.out.heap (x4.block _ (range_lt H4.out.1 (Nat.succ_pos _)))
                have H4 : Hid (Vr wc c4 Z3) := H4.out.below x4 (range_lt H4.out.1 (Nat.succ_pos _))
                have HB0 : Hid (Vr wc w.heap.size [.int .i64 g0, .int .i64 g1, .int .i64 (S : Int), .int .i64 g3, .int .i64 g4, .int .i64 g5]) := HB0.out.below x4 (range_lt HB0.out.1 (Nat.succ_pos _))
                have NB_H6 : Hid (NoB wc c6) := NB_H6.out.heap (x4.block _ (range_lt H6.out.1 (Nat.succ_pos _)))
                have H6 : Hid (Vr wc c6 (hdl G0 (.slice ro rn rc) true)) := H6.out.below x4 (range_lt H6.out.1 (Nat.succ_pos _))
                have HY : Hid (Byt wc (.slice ro rn rc) (parts F k)) := HY.out.below x4
                have BB : Hid (Below w.heap.size w wc) := BB.out.trans (x4.mono BB.out.size)
                have hv_4 : wc.cell? ⟨gv, 4, none⟩ = some (.int .u64 e9) := HV.out.cell 4 _ rfl
                clear x1 x2 x3 x4 HZ HZB BX SB
                go_upto_if 39 with fail
                go_cut [] (fun wc => Vr wc c6 (hdl KG (.slice ro rn rc) true) ∧ NoB wc c6 ∧ Vr wc w.heap.size [.int .i64 g0, .int .i64 g1, .int .i64 (S : Int), .int .i64 g3, .int .i64 g4, .int .i64 g5] ∧ (Vr wc c4 Z3 ∧ NoB wc c4) ∧ Vr wc gv (pg10 kd9 n9 c9 l9 e9 t9 (.slice po S pc) (.slice uo 32 uc) d9 true) ∧ Byt wc (.slice po S pc) Q9 ∧ Byt wc (.slice ro rn rc) (parts F k) ∧ Below w.heap.size w wc)
                case first =>
                  by_cases hk0 : k = 0
                  · subst hk0
                    have t80 : (1 : Nat) = 1 := rfl
                    go_wp2_with (have q80 := t80; (with_reducible refine at_store ?_); refine set_lawK _ (hdl G0 (.slice ro rn rc) true) c6 0 (.int .u64 e9) rfl rfl H6.out NB_H6.out (show (0 : Nat) < 3 by decide) rfl rfl (fun y z => by cases z) one_u64.2 ?_; intro wd v9 nb9 B9 k9; have HP : Hid (Byt wd (.slice po S pc) Q9) := byt_nob HP.out NB_H6.out k9; have HY : Hid (Byt wd (.slice ro rn rc) (parts F 0)) := byt_nob HY.out NB_H6.out k9; have HB0 : Hid (Vr wd w.heap.size [.int .i64 g0, .int .i64 g1, .int .i64 (S : Int), .int .i64 g3, .int .i64 g4, .int .i64 g5]) := HB0.out.heap (k9 _ (Nat.ne_of_lt LT0.out)); have NB_H4 : Hid (NoB wd c4) := NB_H4.out.heap (k9 _ (Nat.ne_of_lt LT4.out)); have H4 : Hid (Vr wd c4 Z3) := H4.out.heap (k9 _ (Nat.ne_of_lt LT4.out)); have HV : Hid (Vr wd gv (pg10 kd9 n9 c9 l9 e9 t9 (.slice po S pc) (.slice uo 32 uc) d9 true)) := HV.out.heap (k9 _ (Nat.ne_of_gt LT8.out)); have H6 : Hid (Vr wd c6 (hdl e9 (.slice ro rn rc) true)) := v9; have NB_H6 : Hid (NoB wd c6) := nb9; have BB : Hid (Below w.heap.size w wd) := BB.out.trans (B9.mono (Nat.le_of_lt LT0.out)); clear v9 nb9 B9 k9 t80)
                    go_meet
                    exact ⟨(by have z := H6.out; rw [K0.out (by simp)] at z; exact z), NB_H6.out, HB0.out, ⟨H4.out, NB_H4.out⟩, HV.out, HP.out, HY.out, BB.out⟩
                  · have nk0 : ((k : Int) == 0) = false := beq_eq_false_iff_ne.2 (by omega)
                    go_wp2_with fail
                    go_meet
                    exact ⟨(by have z := H6.out; rw [GK.out (by omega)] at z; exact z), NB_H6.out, HB0.out, ⟨H4.out, NB_H4.out⟩, HV.out, HP.out, HY.out, BB.out⟩
                case rest =>
                  obtain ⟨x1, x2, x3, ⟨x4, x5⟩, x6, x7, x8, x10⟩ := hcut
                  clear H6 NB_H6 HB0 H4 NB_H4 HV HP HY BB hv_4
                  have H6 : Hid (Vr wc c6 (hdl KG (.slice ro rn rc) true)) := x1
                  have NB_H6 : Hid (NoB wc c6) := x2
                  have HB0 : Hid (Vr wc w.heap.size [.int .i64 g0, .int .i64 g1, .int .i64 (S : Int), .int .i64 g3, .int .i64 g4, .int .i64 g5]) := x3
                  have H4 : Hid (Vr wc c4 Z3) := x4
                  have NB_H4 : Hid (NoB wc c4) := x5
                  have HV : Hid (Vr wc gv (pg10 kd9 n9 c9 l9 e9 t9 (.slice po S pc) (.slice uo 32 uc) d9 true)) := x6
                  have HP : Hid (Byt wc (.slice po S pc) Q9) := x7
                  have HY : Hid (Byt wc (.slice ro rn rc) (parts F k)) := x8
                  have BB : Hid (Below w.heap.size w wc) := x10
                  clear x1 x2 x3 x4 x5 x6 x7 x8 x10
                  go_wp2
                  refine wp_region_held_drew (S := fun w' => Below wc.heap.size wc w') (by kernel_rfl) (Below.refl _ _).drew (fun hS => ?_)
                  obtain ⟨y1, hx0⟩ : ∃ x, x = wc.drew := ⟨_, rfl⟩
                  rw [← hx0] at hS  ⊢
                  clear hx0
                  refine take_lawH 0 (some 44) (.pointer (some ⟨gv, 9, none⟩)) rfl rfl (by kernel_rfl) (by kernel_rfl) (by kernel_rfl) (fun _ _ _ h => h) (Or.inl ⟨by rfl, fun w' hw' => by go_simp⟩) hS ?_
                  simp only [Act.put, List.setIfInBounds_toArray, List.set_cons_zero, List.set_cons_succ]
                  refine take_lawH 1 (some 45) (.bool true) rfl rfl (by kernel_rfl) (by kernel_rfl) (by kernel_rfl) (fun _ _ _ h => h) (Or.inl ⟨by rfl, fun w' hw' => by exact exec_loadN 4 (.tmp 44) rfl _ rfl _ _ (load_one one_bool ((HV.out.below hw' (range_lt HV.out.1 (Nat.succ_pos _))).cell 9 _ rfl))⟩) hS ?_
                  simp only [Act.put, List.setIfInBounds_toArray, List.set_cons_zero, List.set_cons_succ]
                  refine take_lawH 2 (some 46) (.bool false) rfl rfl (by kernel_rfl) (by kernel_rfl) (by kernel_rfl) (fun _ _ _ h => h) (Or.inl ⟨by rfl, fun w' hw' => by exact exec_notB (.tmp 45) rfl true _ rfl rfl _⟩) hS ?_
                  simp only [Act.put, List.setIfInBounds_toArray, List.set_cons_zero, List.set_cons_succ]
                  refine take_lawH 3 (some 47) (.bool false) rfl rfl (by kernel_rfl) (by kernel_rfl) (by kernel_rfl) (fun _ _ _ h => h) (Or.inl ⟨by rfl, fun w' hw' => by rfl⟩) hS ?_
                  simp only [Act.put, List.setIfInBounds_toArray, List.set_cons_zero, List.set_cons_succ]
                  refine take_lawH 4 (some 48) (.pointer (some ⟨gv, 0, none⟩)) rfl rfl (by kernel_rfl) (by kernel_rfl) (by kernel_rfl) (fun _ _ _ h => h) (Or.inl ⟨by rfl, fun w' hw' => by go_simp⟩) hS ?_
                  simp only [Act.put, List.setIfInBounds_toArray, List.set_cons_zero, List.set_cons_succ]
                  refine take_lawH 5 (some 49) (.agg (hv kd9 n9 c9 l9 e9 t9).toArray) rfl rfl (by kernel_rfl) (by kernel_rfl) (by kernel_rfl) (fun _ _ _ h => h) (Or.inl ⟨by rfl, fun w' hw' => by exact exec_loadN 57 (.tmp 48) rfl _ rfl _ _ (load_cells rowy_head (range_head10 (HV.out.below hw' (range_lt HV.out.1 (Nat.succ_pos _))).1))⟩) hS ?_
                  simp only [Act.put, List.setIfInBounds_toArray, List.set_cons_zero, List.set_cons_succ]
                  refine take_lawH 6 (some 50) (.agg ([.int .i64 g0, .int .i64 g1, .int .i64 (S : Int), .int .i64 g3, .int .i64 g4, .int .i64 g5] : List Value).toArray) rfl rfl (by kernel_rfl) (by kernel_rfl) (by kernel_rfl) (fun _ _ _ h => h) (Or.inl ⟨by rfl, fun w' hw' => by exact exec_loadN 23 (.tmp 2) rfl _ rfl _ _ (load_cells rowy_geo (HB0.out.below hw' (range_lt HB0.out.1 (Nat.succ_pos _))).1)⟩) hS ?_
                  simp only [Act.put, List.setIfInBounds_toArray, List.set_cons_zero, List.set_cons_succ]
                  refine take_lawH 7 (some 51) (.int .i64 (k : Int)) rfl rfl (by kernel_rfl) (by kernel_rfl) (by kernel_rfl) (fun _ _ _ h => h) (Or.inl ⟨by rfl, fun w' hw' => by rfl⟩) hS ?_
                  simp only [Act.put, List.setIfInBounds_toArray, List.set_cons_zero, List.set_cons_succ]
                  refine take_lawH 8 (some 52) (.pointer (some ⟨c6, 0, none⟩)) rfl rfl (by kernel_rfl) (by kernel_rfl) (by kernel_rfl) (fun _ _ _ h => h) (Or.inl ⟨by rfl, fun w' hw' => by go_simp⟩) hS ?_
                  simp only [Act.put, List.setIfInBounds_toArray, List.set_cons_zero, List.set_cons_succ]
                  refine take_lawH 9 (some 53) (.int .u64 KG) rfl rfl (by kernel_rfl) (by kernel_rfl) (by kernel_rfl) (fun _ _ _ h => h) (Or.inl ⟨by rfl, fun w' hw' => by exact exec_loadN 25 (.tmp 52) rfl _ rfl _ _ (load_one one_u64 ((H6.out.below hw' (range_lt H6.out.1 (Nat.succ_pos _))).cell 0 _ rfl))⟩) hS ?_
                  simp only [Act.put, List.setIfInBounds_toArray, List.set_cons_zero, List.set_cons_succ]
                  refine wpAnyH_ready (rs := [10]) (by kernel_rfl) (by simp) ?_
                  refine AllReadyH.cons rfl (fun K hK => ?_) AllReadyH.nil
                  refine step_callW _ (by rfl) (some 54) rfl 28 #[.tmp 50, .tmp 51, .tmp 53] #[23, 3, 25] rfl (fun q w' => by rfl) #[.agg ([.int .i64 g0, .int .i64 g1, .int .i64 (S : Int), .int .i64 g3, .int .i64 g4, .int .i64 g5] : List Value).toArray, .int .i64 (k : Int), .int .u64 KG] (by simp only [List.map_toArray, List.map_cons, List.map_nil]; rfl) (fun u w' => u = .agg (hv 4 (k : Int) 0 (N : Int) KG 0).toArray ∧ Below y1.heap.size y1 w') ?_ ?_
                  · exact (SH.out y1).mono fun e w' ⟨h1, h2⟩ => ⟨_, h1, rfl, h2⟩
                  rintro _ y2 ⟨rfl, hb⟩
                  have hS : Below wc.heap.size wc y2 := hS.trans (hb.mono hS.size)
                  clear hb
                  refine hK.out _ _ hS (fun _ => ?_)
                  simp only [Act.put, List.setIfInBounds_toArray, List.set_cons_zero, List.set_cons_succ]
                  clear hK K
                  refine take_lawH 11 (some 55) (.bool false) rfl rfl (by kernel_rfl) (by kernel_rfl) (by kernel_rfl) (fun _ _ _ h => h) (Or.inl ⟨by rfl, fun w' hw' => by exact exec_neqH (.tmp 49) (.tmp 54) rfl kd9 n9 c9 l9 e9 t9 4 (k : Int) 0 (N : Int) KG 0 rfl rfl false HQ.out _⟩) hS ?_
                  simp only [Act.put, List.setIfInBounds_toArray, List.set_cons_zero, List.set_cons_succ]
                  refine take_lawH 12 (some 56) (.bool false) rfl rfl (by kernel_rfl) (by kernel_rfl) (by kernel_rfl) (fun _ _ _ h => h) (Or.inl ⟨by rfl, fun w' hw' => by rfl⟩) hS ?_
                  simp only [Act.put, List.setIfInBounds_toArray, List.set_cons_zero, List.set_cons_succ]
                  refine take_lawH 13 (some 57) (.bool false) rfl rfl (by kernel_rfl) (by kernel_rfl) (by kernel_rfl) (fun _ _ _ h => h) (Or.inl ⟨by rfl, fun w' hw' => by rfl⟩) hS ?_
                  simp only [Act.put, List.setIfInBounds_toArray, List.set_cons_zero, List.set_cons_succ]
                  refine take_lawH 14 (some 58) (.int .i64 (k : Int)) rfl rfl (by kernel_rfl) (by kernel_rfl) (by kernel_rfl) (fun _ _ _ h => h) (Or.inl ⟨by rfl, fun w' hw' => by rfl⟩) hS ?_
                  simp only [Act.put, List.setIfInBounds_toArray, List.set_cons_zero, List.set_cons_succ]
                  refine take_lawH 15 (some 59) (.int .i64 (N : Int)) rfl rfl (by kernel_rfl) (by kernel_rfl) (by kernel_rfl) (fun _ _ _ h => h) (Or.inl ⟨by rfl, fun w' hw' => by rfl⟩) hS ?_
                  simp only [Act.put, List.setIfInBounds_toArray, List.set_cons_zero, List.set_cons_succ]
                  refine take_lawH 16 (some 60) (.int .i64 ((N - 1 : Nat) : Int)) rfl rfl (by kernel_rfl) (by kernel_rfl) (by kernel_rfl) (fun _ _ _ h => h) (Or.inl ⟨by rfl, fun w' hw' => by exact exec_sub (.tmp 59) (.const (.int .i64 1)) rfl (N : Int) 1 _ rfl rfl N1.out⟩) hS ?_
                  simp only [Act.put, List.setIfInBounds_toArray, List.set_cons_zero, List.set_cons_succ]
                  refine take_lawH 17 (some 61) (.bool false) rfl rfl (by kernel_rfl) (by kernel_rfl) (by kernel_rfl) (fun _ _ _ h => h) (Or.inl ⟨by rfl, fun w' hw' => by exact exec_eqlI (.tmp 58) (.tmp 60) rfl (k : Int) ((N - 1 : Nat) : Int) rfl rfl false KL.out _⟩) hS ?_
                  simp only [Act.put, List.setIfInBounds_toArray, List.set_cons_zero, List.set_cons_succ]
                  refine take_lawH 18 (some 62) (.bool false) rfl rfl (by kernel_rfl) (by kernel_rfl) (by kernel_rfl) (fun _ _ _ h => h) (Or.inl ⟨by rfl, fun w' hw' => by rfl⟩) hS ?_
                  simp only [Act.put, List.setIfInBounds_toArray, List.set_cons_zero, List.set_cons_succ]
                  refine take_lawH 19 (some 63) (undef) rfl rfl (by kernel_rfl) (by kernel_rfl) (by kernel_rfl) (fun _ _ _ h => h) (Or.inr ⟨by rfl, rfl⟩) hS ?_
                  simp only [Act.put, List.setIfInBounds_toArray, List.set_cons_zero, List.set_cons_succ]
                  refine take_lawH 20 (some 64) (undef) rfl rfl (by kernel_rfl) (by kernel_rfl) (by kernel_rfl) (fun _ _ _ h => h) (Or.inr ⟨by rfl, rfl⟩) hS ?_
                  simp only [Act.put, List.setIfInBounds_toArray, List.set_cons_zero, List.set_cons_succ]
                  refine take_lawH 21 (some 65) (undef) rfl rfl (by kernel_rfl) (by kernel_rfl) (by kernel_rfl) (fun _ _ _ h => h) (Or.inr ⟨by rfl, rfl⟩) hS ?_
                  simp only [Act.put, List.setIfInBounds_toArray, List.set_cons_zero, List.set_cons_succ]
                  refine take_lawH 22 (some 66) (.bool false) rfl rfl (by kernel_rfl) (by kernel_rfl) (by kernel_rfl) (fun _ _ _ h => h) (Or.inl ⟨by rfl, fun w' hw' => by rfl⟩) hS ?_
                  simp only [Act.put, List.setIfInBounds_toArray, List.set_cons_zero, List.set_cons_succ]
                  refine take_lawH 23 (some 67) (.bool false) rfl rfl (by kernel_rfl) (by kernel_rfl) (by kernel_rfl) (fun _ _ _ h => h) (Or.inl ⟨by rfl, fun w' hw' => by rfl⟩) hS ?_
                  simp only [Act.put, List.setIfInBounds_toArray, List.set_cons_zero, List.set_cons_succ]
                  refine wpAnyH_done (by kernel_rfl) ?_ _
                  have NB_H4 : Hid (NoB y2 c4) := NB_H4.out.heap (hS.block _ (range_lt H4.out.1 (Nat.succ_pos _)))
                  have H4 : Hid (Vr y2 c4 Z3) := H4.out.below hS (range_lt H4.out.1 (Nat.succ_pos _))
                  have HB0 : Hid (Vr y2 w.heap.size [.int .i64 g0, .int .i64 g1, .int .i64 (S : Int), .int .i64 g3, .int .i64 g4, .int .i64 g5]) := HB0.out.below hS (range_lt HB0.out.1 (Nat.succ_pos _))
                  have NB_H6 : Hid (NoB y2 c6) := NB_H6.out.heap (hS.block _ (range_lt H6.out.1 (Nat.succ_pos _)))
                  have H6 : Hid (Vr y2 c6 (hdl KG (.slice ro rn rc) true)) := H6.out.below hS (range_lt H6.out.1 (Nat.succ_pos _))
                  have HY : Hid (Byt y2 (.slice ro rn rc) (parts F k)) := HY.out.below hS
                  have HV : Hid (Vr y2 gv (pg10 kd9 n9 c9 l9 e9 t9 (.slice po S pc) (.slice uo 32 uc) d9 true)) := HV.out.below hS (range_lt HV.out.1 (Nat.succ_pos _))
                  have HP : Hid (Byt y2 (.slice po S pc) Q9) := HP.out.below hS
                  have BB : Hid (Below w.heap.size w y2) := BB.out.trans (hS.mono BB.out.size)
                  clear hS
                  go_wp2
                  have BX : Hid (Below y2.heap.size y2 y2.drew) := (Below.refl _ _).drew
                  refine wp_region_held_drew (S := fun w' => w'.rangeAt gv 0 (pg10 kd9 n9 c9 l9 e9 t9 (.slice po S pc) (.slice uo 32 uc) d9 true)) (by kernel_rfl) (HV.out.drewN 1).1 (fun hS => ?_)
                  obtain ⟨z1, hx0⟩ : ∃ x, x = y2.drew := ⟨_, rfl⟩
                  rw [← hx0] at hS BX ⊢
                  clear hx0
                  refine take_lawH 1 (some 70) (.pointer (some ⟨c6, 1, none⟩)) rfl rfl (by kernel_rfl) (by kernel_rfl) (by kernel_rfl) (fun _ _ _ h => h) (Or.inl ⟨by rfl, fun w' hw' => by go_simp⟩) hS ?_
                  simp only [Act.put, List.setIfInBounds_toArray, List.set_cons_zero, List.set_cons_succ]
                  refine take_lawH 4 (some 73) (.pointer (some ⟨gv, 6, none⟩)) rfl rfl (by kernel_rfl) (by kernel_rfl) (by kernel_rfl) (fun _ _ _ h => h) (Or.inl ⟨by rfl, fun w' hw' => by go_simp⟩) hS ?_
                  simp only [Act.put, List.setIfInBounds_toArray, List.set_cons_zero, List.set_cons_succ]
                  refine take_lawH 5 (some 74) (.slice po S pc) rfl rfl (by kernel_rfl) (by kernel_rfl) (by kernel_rfl) (fun _ _ _ h => h) (Or.inl ⟨by rfl, fun w' hw' => by exact exec_loadN 24 (.tmp 73) rfl _ rfl _ _ (load_one one_bytes (hw' 6 _ rfl))⟩) hS ?_
                  simp only [Act.put, List.setIfInBounds_toArray, List.set_cons_zero, List.set_cons_succ]
                  refine wpAnyH_ready (rs := [0, 2]) (by kernel_rfl) (by simp) ?_
                  refine AllReadyH.cons rfl (fun K hK => ?_) (AllReadyH.cons rfl (fun K hK => ?_) AllReadyH.nil)
                  · refine step_nil _ rfl (some 69) rfl rfl ?_
                    intro nv z2 O9 hb
                    have ON : Hid (Own y2.heap.size z2 nv []) := own_less O9 BX.out.size
                    have hS : z2.rangeAt gv 0 (pg10 kd9 n9 c9 l9 e9 t9 (.slice po S pc) (.slice uo 32 uc) d9 true) := range_heap hS (hb.block _ (range_lt hS (Nat.succ_pos _)))
                    have BX : Hid (Below y2.heap.size y2 z2) := BX.out.trans (hb.mono BX.out.size)
                    clear hb O9
                    refine hK.out _ _ hS (fun _ => ?_)
                    simp only [Act.put, List.setIfInBounds_toArray, List.set_cons_zero, List.set_cons_succ]
                    clear hK K
                    refine wpAnyH_ready (rs := [2]) (by kernel_rfl) (by simp) ?_
                    refine AllReadyH.cons rfl (fun K hK => ?_) AllReadyH.nil
                    refine step_load1 _ rfl (some 71) rfl 24 one_bytes (.tmp 70) rfl c6 1 (.slice ro rn rc) rfl ((H6.out.below BX.out (range_lt H6.out.1 (Nat.succ_pos _))).cell 1 _ rfl) ?_
                    refine hK.out _ _ hS (fun _ => ?_)
                    simp only [Act.put, List.setIfInBounds_toArray, List.set_cons_zero, List.set_cons_succ]
                    clear hK K
                    refine wpAnyH_ready (rs := [3]) (by kernel_rfl) (by simp) ?_
                    refine AllReadyH.cons rfl (fun K hK => ?_) AllReadyH.nil
                    refine step_pushs _ rfl (some 72) rfl (.tmp 69) (.tmp 71) rfl y2.heap.size BX.out.size _ _ [] (parts F k) rfl rfl ON.out (HY.out.below BX.out) (by simp) PL.out.1 ?_
                    intro pv1 z3 O9 hb
                    have ON : Hid (Own y2.heap.size z3 pv1 (parts F k)) := (by rw [List.nil_append] at O9; exact O9)
                    have hS : z3.rangeAt gv 0 (pg10 kd9 n9 c9 l9 e9 t9 (.slice po S pc) (.slice uo 32 uc) d9 true) := range_heap hS (hb.block _ (range_lt HV.out.1 (Nat.succ_pos _)))
                    have BX : Hid (Below y2.heap.size y2 z3) := BX.out.trans hb
                    clear hb O9
                    refine hK.out _ _ hS (fun _ => ?_)
                    simp only [Act.put, List.setIfInBounds_toArray, List.set_cons_zero, List.set_cons_succ]
                    clear hK K
                    refine wpAnyH_ready (rs := [6]) (by kernel_rfl) (by simp) ?_
                    refine AllReadyH.cons rfl (fun K hK => ?_) AllReadyH.nil
                    refine step_pushs _ rfl (some 75) rfl (.tmp 72) (.tmp 74) rfl y2.heap.size BX.out.size _ _ (parts F k) Q9 rfl rfl ON.out (HP.out.below BX.out) PL.out.1 PL.out.2 ?_
                    intro vv z4 O9 hb
                    have YV : Hid (Byt z4 vv (parts F k ++ Q9)) := O9.byt QA.out
                    have hS : z4.rangeAt gv 0 (pg10 kd9 n9 c9 l9 e9 t9 (.slice po S pc) (.slice uo 32 uc) d9 true) := range_heap hS (hb.block _ (range_lt HV.out.1 (Nat.succ_pos _)))
                    have BX : Hid (Below y2.heap.size y2 z4) := BX.out.trans hb
                    clear hb O9
                    obtain ⟨vo, vn, vc, e9⟩ := sle_byt YV.out
                    subst e9
                    refine hK.out _ _ hS (fun _ => ?_)
                    simp only [Act.put, List.setIfInBounds_toArray, List.set_cons_zero, List.set_cons_succ]
                    clear hK K
                    refine take_lawH 7 (some 76) (.pointer (some ⟨c6, 1, none⟩)) rfl rfl (by kernel_rfl) (by kernel_rfl) (by kernel_rfl) (fun _ _ _ h => h) (Or.inl ⟨by rfl, fun w' hw' => by go_simp⟩) hS ?_
                    simp only [Act.put, List.setIfInBounds_toArray, List.set_cons_zero, List.set_cons_succ]
                    refine wpAnyH_ready (rs := [8]) (by kernel_rfl) (by simp) ?_
                    refine AllReadyH.cons rfl (fun K hK => ?_) AllReadyH.nil
                    have NB_H6 : Hid (NoB z4 c6) := NB_H6.out.heap (BX.out.block _ (range_lt H6.out.1 (Nat.succ_pos _)))
                    have NB_H4 : Hid (NoB z4 c4) := NB_H4.out.heap (BX.out.block _ (range_lt H4.out.1 (Nat.succ_pos _)))
                    have H4 : Hid (Vr z4 c4 Z3) := H4.out.below BX.out (range_lt H4.out.1 (Nat.succ_pos _))
                    have HB0 : Hid (Vr z4 w.heap.size [.int .i64 g0, .int .i64 g1, .int .i64 (S : Int), .int .i64 g3, .int .i64 g4, .int .i64 g5]) := HB0.out.below BX.out (range_lt HB0.out.1 (Nat.succ_pos _))
                    have H6 : Hid (Vr z4 c6 (hdl KG (.slice ro rn rc) true)) := H6.out.below BX.out (range_lt H6.out.1 (Nat.succ_pos _))
                    refine step_setC _ rfl none rfl (.tmp 76) (.tmp 75) 24 rfl (hdl KG (.slice ro rn rc) true) c6 1 (.slice vo vn vc) rfl rfl H6.out NB_H6.out (show (1 : Nat) < 3 by decide) rfl rfl (fun y z => by cases z) one_bytes.2 ?_
                    intro z5 v9 nb9 B9 k9
                    have YV : Hid (Byt z5 (.slice vo vn vc) (parts F k ++ Q9)) := byt_nob YV.out NB_H6.out k9
                    have HB0 : Hid (Vr z5 w.heap.size [.int .i64 g0, .int .i64 g1, .int .i64 (S : Int), .int .i64 g3, .int .i64 g4, .int .i64 g5]) := HB0.out.heap (k9 _ (Nat.ne_of_lt LT0.out))
                    have NB_H4 : Hid (NoB z5 c4) := NB_H4.out.heap (k9 _ (Nat.ne_of_lt LT4.out))
                    have H4 : Hid (Vr z5 c4 Z3) := H4.out.heap (k9 _ (Nat.ne_of_lt LT4.out))
                    have H6 : Hid (Vr z5 c6 (hdl KG (.slice vo vn vc) true)) := v9
                    have NB_H6 : Hid (NoB z5 c6) := nb9
                    have hS : z5.rangeAt gv 0 (pg10 kd9 n9 c9 l9 e9 t9 (.slice po S pc) (.slice uo 32 uc) d9 true) := range_heap hS (k9 _ (Nat.ne_of_gt LT8.out))
                    have BE : Hid (Below w.heap.size w z5) := (BB.out.trans (BX.out.mono BB.out.size)).trans (B9.mono (Nat.le_of_lt LT0.out))
                    clear v9 nb9 B9 k9
                    refine hK.out _ _ hS (fun _ => ?_)
                    simp only [Act.put]
                    clear hK K
                    refine wpAnyH_done (by kernel_rfl) ?_ _
                    clear hS
                    go_wp2
                    go_roundw
                    case rel => exact ⟨k + 1, _, _, _, _, by omega, by go_num, H6.out, NB_H6.out, HB0.out, ⟨H4.out, NB_H4.out⟩, (by have z := YV.out; rw [QE.out] at z; exact z), fun _ => rfl, ⟨JN.out, KC.out⟩, BE.out⟩
                    case measure => simp [intOf]; omega
                  · refine step_load1 _ rfl (some 71) rfl 24 one_bytes (.tmp 70) rfl c6 1 (.slice ro rn rc) rfl ((H6.out.below BX.out (range_lt H6.out.1 (Nat.succ_pos _))).cell 1 _ rfl) ?_
                    refine hK.out _ _ hS (fun _ => ?_)
                    simp only [Act.put, List.setIfInBounds_toArray, List.set_cons_zero, List.set_cons_succ]
                    clear hK K
                    refine wpAnyH_ready (rs := [0]) (by kernel_rfl) (by simp) ?_
                    refine AllReadyH.cons rfl (fun K hK => ?_) AllReadyH.nil
                    refine step_nil _ rfl (some 69) rfl rfl ?_
                    intro nv z6 O9 hb
                    have ON : Hid (Own y2.heap.size z6 nv []) := own_less O9 BX.out.size
                    have hS : z6.rangeAt gv 0 (pg10 kd9 n9 c9 l9 e9 t9 (.slice po S pc) (.slice uo 32 uc) d9 true) := range_heap hS (hb.block _ (range_lt hS (Nat.succ_pos _)))
                    have BX : Hid (Below y2.heap.size y2 z6) := BX.out.trans (hb.mono BX.out.size)
                    clear hb O9
                    refine hK.out _ _ hS (fun _ => ?_)
                    simp only [Act.put, List.setIfInBounds_toArray, List.set_cons_zero, List.set_cons_succ]
                    clear hK K
                    refine wpAnyH_ready (rs := [3]) (by kernel_rfl) (by simp) ?_
                    refine AllReadyH.cons rfl (fun K hK => ?_) AllReadyH.nil
                    refine step_pushs _ rfl (some 72) rfl (.tmp 69) (.tmp 71) rfl y2.heap.size BX.out.size _ _ [] (parts F k) rfl rfl ON.out (HY.out.below BX.out) (by simp) PL.out.1 ?_
                    intro pv1 z7 O9 hb
                    have ON : Hid (Own y2.heap.size z7 pv1 (parts F k)) := (by rw [List.nil_append] at O9; exact O9)
                    have hS : z7.rangeAt gv 0 (pg10 kd9 n9 c9 l9 e9 t9 (.slice po S pc) (.slice uo 32 uc) d9 true) := range_heap hS (hb.block _ (range_lt HV.out.1 (Nat.succ_pos _)))
                    have BX : Hid (Below y2.heap.size y2 z7) := BX.out.trans hb
                    clear hb O9
                    refine hK.out _ _ hS (fun _ => ?_)
                    simp only [Act.put, List.setIfInBounds_toArray, List.set_cons_zero, List.set_cons_succ]
                    clear hK K
                    refine wpAnyH_ready (rs := [6]) (by kernel_rfl) (by simp) ?_
                    refine AllReadyH.cons rfl (fun K hK => ?_) AllReadyH.nil
                    refine step_pushs _ rfl (some 75) rfl (.tmp 72) (.tmp 74) rfl y2.heap.size BX.out.size _ _ (parts F k) Q9 rfl rfl ON.out (HP.out.below BX.out) PL.out.1 PL.out.2 ?_
                    intro vv z8 O9 hb
                    have YV : Hid (Byt z8 vv (parts F k ++ Q9)) := O9.byt QA.out
                    have hS : z8.rangeAt gv 0 (pg10 kd9 n9 c9 l9 e9 t9 (.slice po S pc) (.slice uo 32 uc) d9 true) := range_heap hS (hb.block _ (range_lt HV.out.1 (Nat.succ_pos _)))
                    have BX : Hid (Below y2.heap.size y2 z8) := BX.out.trans hb
                    clear hb O9
                    obtain ⟨vo, vn, vc, e9⟩ := sle_byt YV.out
                    subst e9
                    refine hK.out _ _ hS (fun _ => ?_)
                    simp only [Act.put, List.setIfInBounds_toArray, List.set_cons_zero, List.set_cons_succ]
                    clear hK K
                    refine take_lawH 7 (some 76) (.pointer (some ⟨c6, 1, none⟩)) rfl rfl (by kernel_rfl) (by kernel_rfl) (by kernel_rfl) (fun _ _ _ h => h) (Or.inl ⟨by rfl, fun w' hw' => by go_simp⟩) hS ?_
                    simp only [Act.put, List.setIfInBounds_toArray, List.set_cons_zero, List.set_cons_succ]
                    refine wpAnyH_ready (rs := [8]) (by kernel_rfl) (by simp) ?_
                    refine AllReadyH.cons rfl (fun K hK => ?_) AllReadyH.nil
                    have NB_H6 : Hid (NoB z8 c6) := NB_H6.out.heap (BX.out.block _ (range_lt H6.out.1 (Nat.succ_pos _)))
                    have NB_H4 : Hid (NoB z8 c4) := NB_H4.out.heap (BX.out.block _ (range_lt H4.out.1 (Nat.succ_pos _)))
                    have H4 : Hid (Vr z8 c4 Z3) := H4.out.below BX.out (range_lt H4.out.1 (Nat.succ_pos _))
                    have HB0 : Hid (Vr z8 w.heap.size [.int .i64 g0, .int .i64 g1, .int .i64 (S : Int), .int .i64 g3, .int .i64 g4, .int .i64 g5]) := HB0.out.below BX.out (range_lt HB0.out.1 (Nat.succ_pos _))
                    have H6 : Hid (Vr z8 c6 (hdl KG (.slice ro rn rc) true)) := H6.out.below BX.out (range_lt H6.out.1 (Nat.succ_pos _))
                    refine step_setC _ rfl none rfl (.tmp 76) (.tmp 75) 24 rfl (hdl KG (.slice ro rn rc) true) c6 1 (.slice vo vn vc) rfl rfl H6.out NB_H6.out (show (1 : Nat) < 3 by decide) rfl rfl (fun y z => by cases z) one_bytes.2 ?_
                    intro z9 v9 nb9 B9 k9
                    have YV : Hid (Byt z9 (.slice vo vn vc) (parts F k ++ Q9)) := byt_nob YV.out NB_H6.out k9
                    have HB0 : Hid (Vr z9 w.heap.size [.int .i64 g0, .int .i64 g1, .int .i64 (S : Int), .int .i64 g3, .int .i64 g4, .int .i64 g5]) := HB0.out.heap (k9 _ (Nat.ne_of_lt LT0.out))
                    have NB_H4 : Hid (NoB z9 c4) := NB_H4.out.heap (k9 _ (Nat.ne_of_lt LT4.out))
                    have H4 : Hid (Vr z9 c4 Z3) := H4.out.heap (k9 _ (Nat.ne_of_lt LT4.out))
                    have H6 : Hid (Vr z9 c6 (hdl KG (.slice vo vn vc) true)) := v9
                    have NB_H6 : Hid (NoB z9 c6) := nb9
                    have hS : z9.rangeAt gv 0 (pg10 kd9 n9 c9 l9 e9 t9 (.slice po S pc) (.slice uo 32 uc) d9 true) := range_heap hS (k9 _ (Nat.ne_of_gt LT8.out))
                    have BE : Hid (Below w.heap.size w z9) := (BB.out.trans (BX.out.mono BB.out.size)).trans (B9.mono (Nat.le_of_lt LT0.out))
                    clear v9 nb9 B9 k9
                    refine hK.out _ _ hS (fun _ => ?_)
                    simp only [Act.put]
                    clear hK K
                    refine wpAnyH_done (by kernel_rfl) ?_ _
                    clear hS
                    go_wp2
                    go_roundw
                    case rel => exact ⟨k + 1, _, _, _, _, by omega, by go_num, H6.out, NB_H6.out, HB0.out, ⟨H4.out, NB_H4.out⟩, (by have z := YV.out; rw [QE.out] at z; exact z), fun _ => rfl, ⟨JN.out, KC.out⟩, BE.out⟩
                    case measure => simp [intOf]; omega
          · have SB : Hid (∀ w0, Below wr.heap.size wr w0 → Calls Tryd.prog 32 #[.agg (ints .i64 [g0, g1, (S : Int), g3, g4, g5]), .slice zo zn zc] w0 fun x w' => ∃ po pc uo uc, x = .returned (.agg (pg10 (qk ((ls.getD k []).drop S)) (qn ((ls.getD k []).drop S)) (he.qc ((ls.getD k []).drop S)) (ql ((ls.getD k []).drop S)) (qe ((ls.getD k []).drop S)) (qt ((ls.getD k []).drop S)) (.slice po S pc) (.slice uo 32 uc) (decide (((ls.getD k []).drop S).drop 80 = List.replicate 8 0)) true).toArray) ∧ Byt w' (.slice po S pc) ((ls.getD k []).take S) ∧ Below w0.heap.size w0 w') := fun w0 q => (rpread_yes g0 g1 g3 g4 g5 S _ _ w0 (HZB.out.below q) (by rw [EN.out]; exact hl) ht).mono fun x w' ⟨po, pc, uo, uc, h1, h2, _, h4⟩ => ⟨po, pc, uo, uc, h1, h2, h4⟩
            have K0 : Hid (k = 0 → qe ((ls.getD k []).drop S) = KG) := fun h => (by rw [h]; exact HG0.out.symm)
            have HQ : Hid ((!decide (qk ((ls.getD k []).drop S) = 4 ∧ qn ((ls.getD k []).drop S) = (k : Int) ∧ he.qc ((ls.getD k []).drop S) = 0 ∧ ql ((ls.getD k []).drop S) = (N : Int) ∧ qe ((ls.getD k []).drop S) = KG ∧ qt ((ls.getD k []).drop S) = 0)) = true) := (by show _ = _; rw [decide_eq_false hh]; rfl)
            have NK : Hid (¬ Khd S ls) := fun h => (by
              have q := (HX.out.1 h).1 k hlt
              exact hh ⟨q.2.2.1, q.2.2.2.1, q.2.2.2.2.1, by rw [← EK.out]; exact q.2.2.2.2.2.1, q.2.2.2.2.2.2.1, q.2.2.2.2.2.2.2⟩)
            generalize qk ((ls.getD k []).drop S) = kd9 at SB HQ
            generalize qn ((ls.getD k []).drop S) = n9 at SB HQ
            generalize he.qc ((ls.getD k []).drop S) = c9 at SB HQ
            generalize ql ((ls.getD k []).drop S) = l9 at SB HQ
            generalize qe ((ls.getD k []).drop S) = e9 at SB HQ K0
            generalize qt ((ls.getD k []).drop S) = t9 at SB HQ
            generalize decide (((ls.getD k []).drop S).drop 80 = List.replicate 8 0) = d9 at SB
            generalize (ls.getD k []).take S = Q9 at SB
            clear hh ht hl
            have ZB : Hid (((zn : Int) != (S : Int) + 88) = false) := ZB0.out
            go_wp2
            refine wp_region_held_drew (S := fun w' => Below wr.heap.size wr w') (by kernel_rfl) (Below.refl _ _).drew (fun hS => ?_)
            obtain ⟨x1, hx0⟩ : ∃ x, x = wr.drew := ⟨_, rfl⟩
            rw [← hx0] at hS  ⊢
            clear hx0
            refine take_lawH 0 (some 22) (.slice (some ⟨b, off, none⟩) n cap) rfl rfl (by kernel_rfl) (by kernel_rfl) (by kernel_rfl) (fun _ _ _ h => h) (Or.inl ⟨by rfl, fun w' hw' => by rfl⟩) hS ?_
            simp only [Act.put, List.setIfInBounds_toArray, List.set_cons_zero, List.set_cons_succ]
            refine take_lawH 1 (some 23) (.int .i64 (k : Int)) rfl rfl (by kernel_rfl) (by kernel_rfl) (by kernel_rfl) (fun _ _ _ h => h) (Or.inl ⟨by rfl, fun w' hw' => by rfl⟩) hS ?_
            simp only [Act.put, List.setIfInBounds_toArray, List.set_cons_zero, List.set_cons_succ]
            refine take_lawH 2 (some 24) (.pointer (some ⟨b, off + k, none⟩)) rfl rfl (by kernel_rfl) (by kernel_rfl) (by kernel_rfl) (fun _ _ _ h => h) (Or.inl ⟨by rfl, fun w' hw' => by exact exec_idxR (.tmp 22) (.tmp 23) rfl b off n cap k rfl rfl KN.out _⟩) hS ?_
            simp only [Act.put, List.setIfInBounds_toArray, List.set_cons_zero, List.set_cons_succ]
            refine take_lawH 3 (some 25) (.slice zo zn zc) rfl rfl (by kernel_rfl) (by kernel_rfl) (by kernel_rfl) (fun _ _ _ h => h) (Or.inl ⟨by rfl, fun w' hw' => by exact exec_loadN 24 (.tmp 24) rfl _ rfl _ _ (load_one one_bytes (HZ.out _ hw'))⟩) hS ?_
            simp only [Act.put, List.setIfInBounds_toArray, List.set_cons_zero, List.set_cons_succ]
            refine take_lawH 4 (some 26) (.int .i64 (zn : Int)) rfl rfl (by kernel_rfl) (by kernel_rfl) (by kernel_rfl) (fun _ _ _ h => h) (Or.inl ⟨by rfl, fun w' hw' => by exact exec_lenB (.tmp 25) rfl zo zn zc rfl _⟩) hS ?_
            simp only [Act.put, List.setIfInBounds_toArray, List.set_cons_zero, List.set_cons_succ]
            refine take_lawH 5 (some 27) (.pointer (some ⟨w.heap.size, 2, none⟩)) rfl rfl (by kernel_rfl) (by kernel_rfl) (by kernel_rfl) (fun _ _ _ h => h) (Or.inl ⟨by rfl, fun w' hw' => by go_simp⟩) hS ?_
            simp only [Act.put, List.setIfInBounds_toArray, List.set_cons_zero, List.set_cons_succ]
            refine take_lawH 6 (some 28) (.int .i64 (S : Int)) rfl rfl (by kernel_rfl) (by kernel_rfl) (by kernel_rfl) (fun _ _ _ h => h) (Or.inl ⟨by rfl, fun w' hw' => by exact exec_loadN 3 (.tmp 27) rfl _ rfl _ _ (ld_int ((HB0.out.below hw' (range_lt HB0.out.1 (Nat.succ_pos _))).cell 2 _ rfl))⟩) hS ?_
            simp only [Act.put, List.setIfInBounds_toArray, List.set_cons_zero, List.set_cons_succ]
            refine take_lawH 7 (some 29) (.int .i64 ((S : Int) + 88)) rfl rfl (by kernel_rfl) (by kernel_rfl) (by kernel_rfl) (fun _ _ _ h => h) (Or.inl ⟨by rfl, fun w' hw' => by exact exec_add (.tmp 28) (.const (.int .i64 88)) rfl (S : Int) 88 _ rfl rfl S88.out⟩) hS ?_
            simp only [Act.put, List.setIfInBounds_toArray, List.set_cons_zero, List.set_cons_succ]
            refine take_lawH 8 (some 30) (.bool false) rfl rfl (by kernel_rfl) (by kernel_rfl) (by kernel_rfl) (fun _ _ _ h => h) (Or.inl ⟨by rfl, fun w' hw' => by exact exec_neqI (.tmp 26) (.tmp 29) rfl (zn : Int) ((S : Int) + 88) rfl rfl false ZB.out _⟩) hS ?_
            simp only [Act.put, List.setIfInBounds_toArray, List.set_cons_zero, List.set_cons_succ]
            refine wpAnyH_done (by kernel_rfl) ?_ _
            obtain ⟨wx, ex⟩ : ∃ q, q = x1 := ⟨_, rfl⟩
            rw [← ex] at hS ⊢
            clear ex
            have NB_H4 : Hid (NoB wx c4) := NB_H4.out.heap (hS.block _ (range_lt H4.out.1 (Nat.succ_pos _)))
            have H4 : Hid (Vr wx c4 Z3) := H4.out.below hS (range_lt H4.out.1 (Nat.succ_pos _))
            have HB0 : Hid (Vr wx w.heap.size [.int .i64 g0, .int .i64 g1, .int .i64 (S : Int), .int .i64 g3, .int .i64 g4, .int .i64 g5]) := HB0.out.below hS (range_lt HB0.out.1 (Nat.succ_pos _))
            have NB_H6 : Hid (NoB wx c6) := NB_H6.out.heap (hS.block _ (range_lt H6.out.1 (Nat.succ_pos _)))
            have H6 : Hid (Vr wx c6 (hdl G0 (.slice ro rn rc) true)) := H6.out.below hS (range_lt H6.out.1 (Nat.succ_pos _))
            have HY : Hid (Byt wx (.slice ro rn rc) (parts F k)) := HY.out.below hS
            have BX : Hid (Below wr.heap.size wr wx) := hS
            have BB : Hid (Below w.heap.size w wx) := BB.out.trans (hS.mono BB.out.size)
            clear hS
            go_wp2
            have t1 : (1 : Nat) = 1 := rfl
            go_cut [8] (fun r8 wc => ∃ (gv : Nat) (po : Option Addr) (pc : Nat) (uo : Option Addr) (uc : Nat), r8 = .pointer (some ⟨gv, 0, none⟩) ∧ Vr wc gv (pg10 kd9 n9 c9 l9 e9 t9 (.slice po S pc) (.slice uo 32 uc) d9 true) ∧ Byt wc (.slice po S pc) Q9 ∧ wx.heap.size ≤ gv ∧ Below wx.heap.size wx wc)
            case first =>
              refine wp_region_held_drew (S := fun w' => Below wx.heap.size wx w') (by kernel_rfl) (Below.refl _ _).drew (fun hS => ?_)
              obtain ⟨y1, hx0⟩ : ∃ x, x = wx.drew := ⟨_, rfl⟩
              rw [← hx0] at hS  ⊢
              clear hx0
              refine take_lawH 0 (some 32) (.agg ([.int .i64 g0, .int .i64 g1, .int .i64 (S : Int), .int .i64 g3, .int .i64 g4, .int .i64 g5] : List Value).toArray) rfl rfl (by kernel_rfl) (by kernel_rfl) (by kernel_rfl) (fun _ _ _ h => h) (Or.inl ⟨by rfl, fun w' hw' => by exact exec_loadN 23 (.tmp 2) rfl _ rfl _ _ (load_cells rowy_geo (HB0.out.below hw' (range_lt HB0.out.1 (Nat.succ_pos _))).1)⟩) hS ?_
              simp only [Act.put, List.setIfInBounds_toArray, List.set_cons_zero, List.set_cons_succ]
              refine take_lawH 1 (some 33) (.slice (some ⟨b, off, none⟩) n cap) rfl rfl (by kernel_rfl) (by kernel_rfl) (by kernel_rfl) (fun _ _ _ h => h) (Or.inl ⟨by rfl, fun w' hw' => by rfl⟩) hS ?_
              simp only [Act.put, List.setIfInBounds_toArray, List.set_cons_zero, List.set_cons_succ]
              refine take_lawH 2 (some 34) (.int .i64 (k : Int)) rfl rfl (by kernel_rfl) (by kernel_rfl) (by kernel_rfl) (fun _ _ _ h => h) (Or.inl ⟨by rfl, fun w' hw' => by rfl⟩) hS ?_
              simp only [Act.put, List.setIfInBounds_toArray, List.set_cons_zero, List.set_cons_succ]
              refine take_lawH 3 (some 35) (.pointer (some ⟨b, off + k, none⟩)) rfl rfl (by kernel_rfl) (by kernel_rfl) (by kernel_rfl) (fun _ _ _ h => h) (Or.inl ⟨by rfl, fun w' hw' => by exact exec_idxR (.tmp 33) (.tmp 34) rfl b off n cap k rfl rfl KN.out _⟩) hS ?_
              simp only [Act.put, List.setIfInBounds_toArray, List.set_cons_zero, List.set_cons_succ]
              refine take_lawH 4 (some 36) (.slice zo zn zc) rfl rfl (by kernel_rfl) (by kernel_rfl) (by kernel_rfl) (fun _ _ _ h => h) (Or.inl ⟨by rfl, fun w' hw' => by exact exec_loadN 24 (.tmp 35) rfl _ rfl _ _ (load_one one_bytes (HZ.out _ (BX.out.trans (hw'.mono BX.out.size))))⟩) hS ?_
              simp only [Act.put, List.setIfInBounds_toArray, List.set_cons_zero, List.set_cons_succ]
              refine wpAnyH_ready (rs := [5, 6]) (by kernel_rfl) (by simp) ?_
              refine AllReadyH.cons rfl (fun K hK => ?_) (AllReadyH.cons rfl (fun K hK => ?_) AllReadyH.nil)
              · refine step_callW _ (by rfl) (some 37) rfl 32 #[.tmp 32, .tmp 36] #[23, 24] rfl (fun q w' => by rfl) #[.agg ([.int .i64 g0, .int .i64 g1, .int .i64 (S : Int), .int .i64 g3, .int .i64 g4, .int .i64 g5] : List Value).toArray, .slice zo zn zc] (by simp only [List.map_toArray, List.map_cons, List.map_nil]; rfl) (fun u w' => (∃ po pc uo uc, u = .agg (pg10 kd9 n9 c9 l9 e9 t9 (.slice po S pc) (.slice uo 32 uc) d9 true).toArray ∧ Byt w' (.slice po S pc) Q9) ∧ Below y1.heap.size y1 w') ?_ ?_
                · exact (SB.out y1 (BX.out.trans (hS.mono BX.out.size))).mono fun e w' ⟨po, pc, uo, uc, h1, h2, h3⟩ => ⟨_, h1, ⟨po, pc, uo, uc, rfl, h2⟩, h3⟩
                rintro _ y2 ⟨⟨po, pc, uo, uc, rfl, y9⟩, hb⟩
                have HP : Hid (Byt y2 (.slice po S pc) Q9) := y9
                clear y9
                have hS : Below wx.heap.size wx y2 := hS.trans (hb.mono hS.size)
                clear hb
                refine hK.out _ _ hS (fun _ => ?_)
                simp only [Act.put, List.setIfInBounds_toArray, List.set_cons_zero, List.set_cons_succ]
                clear hK K
                refine wpAnyH_ready (rs := [6]) (by kernel_rfl) (by simp) ?_
                refine AllReadyH.cons rfl (fun K hK => ?_) AllReadyH.nil
                refine step_newN _ rfl (some 8) rfl 70 rfl Z10 zero_rpage (pg10_nob _ _ _ _ _ _ _ _ _ _ _ _ _ _) ?_
                intro y3 v9 nb9 hb
                have HP : Hid (Byt y3 (.slice po S pc) Q9) := HP.out.below hb
                have HV : Hid (Vr y3 y2.heap.size Z10) := v9
                have NV : Hid (NoB y3 y2.heap.size) := nb9
                have LV : Hid (wx.heap.size ≤ y2.heap.size) := hS.size
                have hS : Below wx.heap.size wx y3 := hS.trans (hb.mono hS.size)
                clear v9 nb9 hb
                obtain ⟨gv, hg9⟩ : ∃ g, g = y2.heap.size := ⟨_, rfl⟩
                rw [← hg9] at HV NV LV ⊢
                clear hg9
                refine hK.out _ _ hS (fun _ => ?_)
                simp only [Act.put, List.setIfInBounds_toArray, List.set_cons_zero, List.set_cons_succ]
                clear hK K
                refine wpAnyH_ready (rs := [7]) (by kernel_rfl) (by simp) ?_
                refine AllReadyH.cons rfl (fun K hK => ?_) AllReadyH.nil
                refine step_storeN _ rfl none rfl (.tmp 8) (.tmp 37) 70 rfl gv Z10 (pg10 kd9 n9 c9 l9 e9 t9 (.slice po S pc) (.slice uo 32 uc) d9 true) rfl rfl HV.out NV.out rfl rowy_rpage.2 (pg10_one _ _ _ _ _ _ _ _ _ _ _ _ _ _) (pg10_nob _ _ _ _ _ _ _ _ _ _ _ _ _ _) ?_
                intro y4 v9 nb9 B9 k9
                have HP : Hid (Byt y4 (.slice po S pc) Q9) := byt_nob HP.out NV.out k9
                have HV : Hid (Vr y4 gv (pg10 kd9 n9 c9 l9 e9 t9 (.slice po S pc) (.slice uo 32 uc) d9 true)) := v9
                have hS : Below wx.heap.size wx y4 := hS.trans (B9.mono LV.out)
                clear v9 nb9 B9 k9
                refine hK.out _ _ hS (fun _ => ?_)
                simp only [Act.put]
                clear hK K
                refine wpAnyH_done (by kernel_rfl) ?_ _
                go_wp2_with fail
                go_meet
                exact ⟨gv, po, pc, uo, uc, rfl, HV.out, HP.out, LV.out, hS⟩
              · refine step_newN _ rfl (some 8) rfl 70 rfl Z10 zero_rpage (pg10_nob _ _ _ _ _ _ _ _ _ _ _ _ _ _) ?_
                intro y5 v9 nb9 hb
                have HV : Hid (Vr y5 y1.heap.size Z10) := v9
                have NV : Hid (NoB y5 y1.heap.size) := nb9
                have LV : Hid (wx.heap.size ≤ y1.heap.size) := hS.size
                have hS : Below wx.heap.size wx y5 := hS.trans (hb.mono hS.size)
                clear v9 nb9 hb
                obtain ⟨gv, hg9⟩ : ∃ g, g = y1.heap.size := ⟨_, rfl⟩
                rw [← hg9] at HV NV LV ⊢
                clear hg9
                refine hK.out _ _ hS (fun _ => ?_)
                simp only [Act.put, List.setIfInBounds_toArray, List.set_cons_zero, List.set_cons_succ]
                clear hK K
                refine wpAnyH_ready (rs := [5]) (by kernel_rfl) (by simp) ?_
                refine AllReadyH.cons rfl (fun K hK => ?_) AllReadyH.nil
                refine step_callW _ (by rfl) (some 37) rfl 32 #[.tmp 32, .tmp 36] #[23, 24] rfl (fun q w' => by rfl) #[.agg ([.int .i64 g0, .int .i64 g1, .int .i64 (S : Int), .int .i64 g3, .int .i64 g4, .int .i64 g5] : List Value).toArray, .slice zo zn zc] (by simp only [List.map_toArray, List.map_cons, List.map_nil]; rfl) (fun u w' => (∃ po pc uo uc, u = .agg (pg10 kd9 n9 c9 l9 e9 t9 (.slice po S pc) (.slice uo 32 uc) d9 true).toArray ∧ Byt w' (.slice po S pc) Q9) ∧ Below y5.heap.size y5 w') ?_ ?_
                · exact (SB.out y5 (BX.out.trans (hS.mono BX.out.size))).mono fun e w' ⟨po, pc, uo, uc, h1, h2, h3⟩ => ⟨_, h1, ⟨po, pc, uo, uc, rfl, h2⟩, h3⟩
                rintro _ y6 ⟨⟨po, pc, uo, uc, rfl, y9⟩, hb⟩
                have HP : Hid (Byt y6 (.slice po S pc) Q9) := y9
                have NV : Hid (NoB y6 gv) := NV.out.heap (hb.block _ (range_lt HV.out.1 (Nat.succ_pos _)))
                have HV : Hid (Vr y6 gv Z10) := HV.out.below hb (range_lt HV.out.1 (Nat.succ_pos _))
                clear y9
                have hS : Below wx.heap.size wx y6 := hS.trans (hb.mono hS.size)
                clear hb
                refine hK.out _ _ hS (fun _ => ?_)
                simp only [Act.put, List.setIfInBounds_toArray, List.set_cons_zero, List.set_cons_succ]
                clear hK K
                refine wpAnyH_ready (rs := [7]) (by kernel_rfl) (by simp) ?_
                refine AllReadyH.cons rfl (fun K hK => ?_) AllReadyH.nil
                refine step_storeN _ rfl none rfl (.tmp 8) (.tmp 37) 70 rfl gv Z10 (pg10 kd9 n9 c9 l9 e9 t9 (.slice po S pc) (.slice uo 32 uc) d9 true) rfl rfl HV.out NV.out rfl rowy_rpage.2 (pg10_one _ _ _ _ _ _ _ _ _ _ _ _ _ _) (pg10_nob _ _ _ _ _ _ _ _ _ _ _ _ _ _) ?_
                intro y7 v9 nb9 B9 k9
                have HP : Hid (Byt y7 (.slice po S pc) Q9) := byt_nob HP.out NV.out k9
                have HV : Hid (Vr y7 gv (pg10 kd9 n9 c9 l9 e9 t9 (.slice po S pc) (.slice uo 32 uc) d9 true)) := v9
                have hS : Below wx.heap.size wx y7 := hS.trans (B9.mono LV.out)
                clear v9 nb9 B9 k9
                refine hK.out _ _ hS (fun _ => ?_)
                simp only [Act.put]
                clear hK K
                refine wpAnyH_done (by kernel_rfl) ?_ _
                go_wp2_with fail
                go_meet
                exact ⟨gv, po, pc, uo, uc, rfl, HV.out, HP.out, LV.out, hS⟩
            case rest =>
              obtain ⟨gv, po, pc, uo, uc, rfl, x1, x2, x3, x4⟩ := hcut
              have HV : Hid (Vr wc gv (pg10 kd9 n9 c9 l9 e9 t9 (.slice po S pc) (.slice uo 32 uc) d9 true)) := x1
              have HP : Hid (Byt wc (.slice po S pc) Q9) := x2
              have LT8 : Hid (c6 < gv) := Nat.lt_of_lt_of_le (range_lt H6.out.1 (Nat.succ_pos _)) x3
              have NB_H4 : Hid (NoB wc c4) := NB_H4.out.heap (x4.block _ (range_lt H4.out.1 (Nat.succ_pos _)))
              have H4 : Hid (Vr wc c4 Z3) := H4.out.below x4 (range_lt H4.out.1 (Nat.succ_pos _))
              have HB0 : Hid (Vr wc w.heap.size [.int .i64 g0, .int .i64 g1, .int .i64 (S : Int), .int .i64 g3, .int .i64 g4, .int .i64 g5]) := HB0.out.below x4 (range_lt HB0.out.1 (Nat.succ_pos _))
              have NB_H6 : Hid (NoB wc c6) := NB_H6.out.heap (x4.block _ (range_lt H6.out.1 (Nat.succ_pos _)))
              have H6 : Hid (Vr wc c6 (hdl G0 (.slice ro rn rc) true)) := H6.out.below x4 (range_lt H6.out.1 (Nat.succ_pos _))
              have HY : Hid (Byt wc (.slice ro rn rc) (parts F k)) := HY.out.below x4
              have BB : Hid (Below w.heap.size w wc) := BB.out.trans (x4.mono BB.out.size)
              have hv_4 : wc.cell? ⟨gv, 4, none⟩ = some (.int .u64 e9) := HV.out.cell 4 _ rfl
              clear x1 x2 x3 x4 HZ HZB BX SB
              go_upto_if 39 with fail
              go_cut [] (fun wc => Vr wc c6 (hdl KG (.slice ro rn rc) true) ∧ NoB wc c6 ∧ Vr wc w.heap.size [.int .i64 g0, .int .i64 g1, .int .i64 (S : Int), .int .i64 g3, .int .i64 g4, .int .i64 g5] ∧ (Vr wc c4 Z3 ∧ NoB wc c4) ∧ Vr wc gv (pg10 kd9 n9 c9 l9 e9 t9 (.slice po S pc) (.slice uo 32 uc) d9 true) ∧ Byt wc (.slice po S pc) Q9 ∧ Byt wc (.slice ro rn rc) (parts F k) ∧ Below w.heap.size w wc)
              case first =>
                by_cases hk0 : k = 0
                · subst hk0
                  have t80 : (1 : Nat) = 1 := rfl
                  go_wp2_with (have q80 := t80; (with_reducible refine at_store ?_); refine set_lawK _ (hdl G0 (.slice ro rn rc) true) c6 0 (.int .u64 e9) rfl rfl H6.out NB_H6.out (show (0 : Nat) < 3 by decide) rfl rfl (fun y z => by cases z) one_u64.2 ?_; intro wd v9 nb9 B9 k9; have HP : Hid (Byt wd (.slice po S pc) Q9) := byt_nob HP.out NB_H6.out k9; have HY : Hid (Byt wd (.slice ro rn rc) (parts F 0)) := byt_nob HY.out NB_H6.out k9; have HB0 : Hid (Vr wd w.heap.size [.int .i64 g0, .int .i64 g1, .int .i64 (S : Int), .int .i64 g3, .int .i64 g4, .int .i64 g5]) := HB0.out.heap (k9 _ (Nat.ne_of_lt LT0.out)); have NB_H4 : Hid (NoB wd c4) := NB_H4.out.heap (k9 _ (Nat.ne_of_lt LT4.out)); have H4 : Hid (Vr wd c4 Z3) := H4.out.heap (k9 _ (Nat.ne_of_lt LT4.out)); have HV : Hid (Vr wd gv (pg10 kd9 n9 c9 l9 e9 t9 (.slice po S pc) (.slice uo 32 uc) d9 true)) := HV.out.heap (k9 _ (Nat.ne_of_gt LT8.out)); have H6 : Hid (Vr wd c6 (hdl e9 (.slice ro rn rc) true)) := v9; have NB_H6 : Hid (NoB wd c6) := nb9; have BB : Hid (Below w.heap.size w wd) := BB.out.trans (B9.mono (Nat.le_of_lt LT0.out)); clear v9 nb9 B9 k9 t80)
                  go_meet
                  exact ⟨(by have z := H6.out; rw [K0.out (by simp)] at z; exact z), NB_H6.out, HB0.out, ⟨H4.out, NB_H4.out⟩, HV.out, HP.out, HY.out, BB.out⟩
                · have nk0 : ((k : Int) == 0) = false := beq_eq_false_iff_ne.2 (by omega)
                  go_wp2_with fail
                  go_meet
                  exact ⟨(by have z := H6.out; rw [GK.out (by omega)] at z; exact z), NB_H6.out, HB0.out, ⟨H4.out, NB_H4.out⟩, HV.out, HP.out, HY.out, BB.out⟩
              case rest =>
                obtain ⟨x1, x2, x3, ⟨x4, x5⟩, x6, x7, x8, x10⟩ := hcut
                clear H6 NB_H6 HB0 H4 NB_H4 HV HP HY BB hv_4
                have H6 : Hid (Vr wc c6 (hdl KG (.slice ro rn rc) true)) := x1
                have NB_H6 : Hid (NoB wc c6) := x2
                have HB0 : Hid (Vr wc w.heap.size [.int .i64 g0, .int .i64 g1, .int .i64 (S : Int), .int .i64 g3, .int .i64 g4, .int .i64 g5]) := x3
                have H4 : Hid (Vr wc c4 Z3) := x4
                have NB_H4 : Hid (NoB wc c4) := x5
                have HV : Hid (Vr wc gv (pg10 kd9 n9 c9 l9 e9 t9 (.slice po S pc) (.slice uo 32 uc) d9 true)) := x6
                have HP : Hid (Byt wc (.slice po S pc) Q9) := x7
                have HY : Hid (Byt wc (.slice ro rn rc) (parts F k)) := x8
                have BB : Hid (Below w.heap.size w wc) := x10
                clear x1 x2 x3 x4 x5 x6 x7 x8 x10
                go_wp2
                refine wp_region_held_drew (S := fun w' => Below wc.heap.size wc w') (by kernel_rfl) (Below.refl _ _).drew (fun hS => ?_)
                obtain ⟨y1, hx0⟩ : ∃ x, x = wc.drew := ⟨_, rfl⟩
                rw [← hx0] at hS  ⊢
                clear hx0
                refine take_lawH 0 (some 44) (.pointer (some ⟨gv, 9, none⟩)) rfl rfl (by kernel_rfl) (by kernel_rfl) (by kernel_rfl) (fun _ _ _ h => h) (Or.inl ⟨by rfl, fun w' hw' => by go_simp⟩) hS ?_
                simp only [Act.put, List.setIfInBounds_toArray, List.set_cons_zero, List.set_cons_succ]
                refine take_lawH 1 (some 45) (.bool true) rfl rfl (by kernel_rfl) (by kernel_rfl) (by kernel_rfl) (fun _ _ _ h => h) (Or.inl ⟨by rfl, fun w' hw' => by exact exec_loadN 4 (.tmp 44) rfl _ rfl _ _ (load_one one_bool ((HV.out.below hw' (range_lt HV.out.1 (Nat.succ_pos _))).cell 9 _ rfl))⟩) hS ?_
                simp only [Act.put, List.setIfInBounds_toArray, List.set_cons_zero, List.set_cons_succ]
                refine take_lawH 2 (some 46) (.bool false) rfl rfl (by kernel_rfl) (by kernel_rfl) (by kernel_rfl) (fun _ _ _ h => h) (Or.inl ⟨by rfl, fun w' hw' => by exact exec_notB (.tmp 45) rfl true _ rfl rfl _⟩) hS ?_
                simp only [Act.put, List.setIfInBounds_toArray, List.set_cons_zero, List.set_cons_succ]
                refine take_lawH 3 (some 47) (.bool false) rfl rfl (by kernel_rfl) (by kernel_rfl) (by kernel_rfl) (fun _ _ _ h => h) (Or.inl ⟨by rfl, fun w' hw' => by rfl⟩) hS ?_
                simp only [Act.put, List.setIfInBounds_toArray, List.set_cons_zero, List.set_cons_succ]
                refine take_lawH 4 (some 48) (.pointer (some ⟨gv, 0, none⟩)) rfl rfl (by kernel_rfl) (by kernel_rfl) (by kernel_rfl) (fun _ _ _ h => h) (Or.inl ⟨by rfl, fun w' hw' => by go_simp⟩) hS ?_
                simp only [Act.put, List.setIfInBounds_toArray, List.set_cons_zero, List.set_cons_succ]
                refine take_lawH 5 (some 49) (.agg (hv kd9 n9 c9 l9 e9 t9).toArray) rfl rfl (by kernel_rfl) (by kernel_rfl) (by kernel_rfl) (fun _ _ _ h => h) (Or.inl ⟨by rfl, fun w' hw' => by exact exec_loadN 57 (.tmp 48) rfl _ rfl _ _ (load_cells rowy_head (range_head10 (HV.out.below hw' (range_lt HV.out.1 (Nat.succ_pos _))).1))⟩) hS ?_
                simp only [Act.put, List.setIfInBounds_toArray, List.set_cons_zero, List.set_cons_succ]
                refine take_lawH 6 (some 50) (.agg ([.int .i64 g0, .int .i64 g1, .int .i64 (S : Int), .int .i64 g3, .int .i64 g4, .int .i64 g5] : List Value).toArray) rfl rfl (by kernel_rfl) (by kernel_rfl) (by kernel_rfl) (fun _ _ _ h => h) (Or.inl ⟨by rfl, fun w' hw' => by exact exec_loadN 23 (.tmp 2) rfl _ rfl _ _ (load_cells rowy_geo (HB0.out.below hw' (range_lt HB0.out.1 (Nat.succ_pos _))).1)⟩) hS ?_
                simp only [Act.put, List.setIfInBounds_toArray, List.set_cons_zero, List.set_cons_succ]
                refine take_lawH 7 (some 51) (.int .i64 (k : Int)) rfl rfl (by kernel_rfl) (by kernel_rfl) (by kernel_rfl) (fun _ _ _ h => h) (Or.inl ⟨by rfl, fun w' hw' => by rfl⟩) hS ?_
                simp only [Act.put, List.setIfInBounds_toArray, List.set_cons_zero, List.set_cons_succ]
                refine take_lawH 8 (some 52) (.pointer (some ⟨c6, 0, none⟩)) rfl rfl (by kernel_rfl) (by kernel_rfl) (by kernel_rfl) (fun _ _ _ h => h) (Or.inl ⟨by rfl, fun w' hw' => by go_simp⟩) hS ?_
                simp only [Act.put, List.setIfInBounds_toArray, List.set_cons_zero, List.set_cons_succ]
                refine take_lawH 9 (some 53) (.int .u64 KG) rfl rfl (by kernel_rfl) (by kernel_rfl) (by kernel_rfl) (fun _ _ _ h => h) (Or.inl ⟨by rfl, fun w' hw' => by exact exec_loadN 25 (.tmp 52) rfl _ rfl _ _ (load_one one_u64 ((H6.out.below hw' (range_lt H6.out.1 (Nat.succ_pos _))).cell 0 _ rfl))⟩) hS ?_
                simp only [Act.put, List.setIfInBounds_toArray, List.set_cons_zero, List.set_cons_succ]
                refine wpAnyH_ready (rs := [10]) (by kernel_rfl) (by simp) ?_
                refine AllReadyH.cons rfl (fun K hK => ?_) AllReadyH.nil
                refine step_callW _ (by rfl) (some 54) rfl 28 #[.tmp 50, .tmp 51, .tmp 53] #[23, 3, 25] rfl (fun q w' => by rfl) #[.agg ([.int .i64 g0, .int .i64 g1, .int .i64 (S : Int), .int .i64 g3, .int .i64 g4, .int .i64 g5] : List Value).toArray, .int .i64 (k : Int), .int .u64 KG] (by simp only [List.map_toArray, List.map_cons, List.map_nil]; rfl) (fun u w' => u = .agg (hv 4 (k : Int) 0 (N : Int) KG 0).toArray ∧ Below y1.heap.size y1 w') ?_ ?_
                · exact (SH.out y1).mono fun e w' ⟨h1, h2⟩ => ⟨_, h1, rfl, h2⟩
                rintro _ y2 ⟨rfl, hb⟩
                have hS : Below wc.heap.size wc y2 := hS.trans (hb.mono hS.size)
                clear hb
                refine hK.out _ _ hS (fun _ => ?_)
                simp only [Act.put, List.setIfInBounds_toArray, List.set_cons_zero, List.set_cons_succ]
                clear hK K
                refine take_lawH 11 (some 55) (.bool true) rfl rfl (by kernel_rfl) (by kernel_rfl) (by kernel_rfl) (fun _ _ _ h => h) (Or.inl ⟨by rfl, fun w' hw' => by exact exec_neqH (.tmp 49) (.tmp 54) rfl kd9 n9 c9 l9 e9 t9 4 (k : Int) 0 (N : Int) KG 0 rfl rfl true HQ.out _⟩) hS ?_
                simp only [Act.put, List.setIfInBounds_toArray, List.set_cons_zero, List.set_cons_succ]
                refine take_lawH 12 (some 56) (.bool true) rfl rfl (by kernel_rfl) (by kernel_rfl) (by kernel_rfl) (fun _ _ _ h => h) (Or.inl ⟨by rfl, fun w' hw' => by rfl⟩) hS ?_
                simp only [Act.put, List.setIfInBounds_toArray, List.set_cons_zero, List.set_cons_succ]
                refine take_lawH 13 (some 57) (.bool true) rfl rfl (by kernel_rfl) (by kernel_rfl) (by kernel_rfl) (fun _ _ _ h => h) (Or.inl ⟨by rfl, fun w' hw' => by rfl⟩) hS ?_
                simp only [Act.put, List.setIfInBounds_toArray, List.set_cons_zero, List.set_cons_succ]
                refine take_lawH 14 (some 58) (undef) rfl rfl (by kernel_rfl) (by kernel_rfl) (by kernel_rfl) (fun _ _ _ h => h) (Or.inr ⟨by rfl, rfl⟩) hS ?_
                simp only [Act.put, List.setIfInBounds_toArray, List.set_cons_zero, List.set_cons_succ]
                refine take_lawH 15 (some 59) (undef) rfl rfl (by kernel_rfl) (by kernel_rfl) (by kernel_rfl) (fun _ _ _ h => h) (Or.inr ⟨by rfl, rfl⟩) hS ?_
                simp only [Act.put, List.setIfInBounds_toArray, List.set_cons_zero, List.set_cons_succ]
                refine take_lawH 16 (some 60) (undef) rfl rfl (by kernel_rfl) (by kernel_rfl) (by kernel_rfl) (fun _ _ _ h => h) (Or.inr ⟨by rfl, rfl⟩) hS ?_
                simp only [Act.put, List.setIfInBounds_toArray, List.set_cons_zero, List.set_cons_succ]
                refine take_lawH 17 (some 61) (undef) rfl rfl (by kernel_rfl) (by kernel_rfl) (by kernel_rfl) (fun _ _ _ h => h) (Or.inr ⟨by rfl, rfl⟩) hS ?_
                simp only [Act.put, List.setIfInBounds_toArray, List.set_cons_zero, List.set_cons_succ]
                refine take_lawH 18 (some 62) (undef) rfl rfl (by kernel_rfl) (by kernel_rfl) (by kernel_rfl) (fun _ _ _ h => h) (Or.inr ⟨by rfl, rfl⟩) hS ?_
                simp only [Act.put, List.setIfInBounds_toArray, List.set_cons_zero, List.set_cons_succ]
                refine take_lawH 19 (some 63) (undef) rfl rfl (by kernel_rfl) (by kernel_rfl) (by kernel_rfl) (fun _ _ _ h => h) (Or.inr ⟨by rfl, rfl⟩) hS ?_
                simp only [Act.put, List.setIfInBounds_toArray, List.set_cons_zero, List.set_cons_succ]
                refine take_lawH 20 (some 64) (undef) rfl rfl (by kernel_rfl) (by kernel_rfl) (by kernel_rfl) (fun _ _ _ h => h) (Or.inr ⟨by rfl, rfl⟩) hS ?_
                simp only [Act.put, List.setIfInBounds_toArray, List.set_cons_zero, List.set_cons_succ]
                refine take_lawH 21 (some 65) (undef) rfl rfl (by kernel_rfl) (by kernel_rfl) (by kernel_rfl) (fun _ _ _ h => h) (Or.inr ⟨by rfl, rfl⟩) hS ?_
                simp only [Act.put, List.setIfInBounds_toArray, List.set_cons_zero, List.set_cons_succ]
                refine take_lawH 22 (some 66) (undef) rfl rfl (by kernel_rfl) (by kernel_rfl) (by kernel_rfl) (fun _ _ _ h => h) (Or.inr ⟨by rfl, rfl⟩) hS ?_
                simp only [Act.put, List.setIfInBounds_toArray, List.set_cons_zero, List.set_cons_succ]
                refine take_lawH 23 (some 67) (.bool true) rfl rfl (by kernel_rfl) (by kernel_rfl) (by kernel_rfl) (fun _ _ _ h => h) (Or.inl ⟨by rfl, fun w' hw' => by rfl⟩) hS ?_
                simp only [Act.put, List.setIfInBounds_toArray, List.set_cons_zero, List.set_cons_succ]
                refine wpAnyH_done (by kernel_rfl) ?_ _
                have NB_H4 : Hid (NoB y2 c4) := NB_H4.out.heap (hS.block _ (range_lt H4.out.1 (Nat.succ_pos _)))
                have H4 : Hid (Vr y2 c4 Z3) := H4.out.below hS (range_lt H4.out.1 (Nat.succ_pos _))
                have BB : Hid (Below w.heap.size w y2) := BB.out.trans (hS.mono BB.out.size)
                clear hS
                have t80 : (1 : Nat) = 1 := rfl
                go_wp2_with (first
                  | (have q81 := t81; (with_reducible refine at_store ?_); refine store_lawC _ Z3 c4 0 rfl rfl H4.out.2 rowy_held.2 (hdl_one _ _ _ _ _) ?_; intro w91 E9 R9 T9 B9; have K9 : ∀ k, k ≠ c4 → w91.heap[k]? = y2.heap[k]? := (by rw [E9.out]; exact fun k hk => heap_cells _ _ _ _ k hk); have NB_H4 : Hid (NoB w91 c4) := (by rw [E9.out]; exact NB_H4.out.set H4.out rfl (hdl_nob _ _ _ _ _)); have H4 : Hid (Vr w91 c4 Z3) := ⟨R9, T9⟩; have BB : Hid (Below w.heap.size w w91) := BB.out.trans (B9.mono LE4.out); clear E9 R9 T9 B9 K9; clear t81; have t82 : (1 : Nat) = 1 := rfl)
                  | (have q80 := t80; refine build_law _ rfl 39 _ rfl (.agg Z3.toArray) (by kernel_rfl) ?_; clear t80; have t81 : (1 : Nat) = 1 := rfl))
                exact bodyPost_ret (v := .agg Z3.toArray) (results_c rfl _ _ c4 _ rowy_held rfl H4.out.1) rfl ⟨.inr ⟨NK.out, rfl⟩, BB.out⟩
        · obtain ⟨kd9, f1⟩ : ∃ q : Int, q = 0 := ⟨_, rfl⟩
          obtain ⟨n9, f2⟩ : ∃ q : Int, q = 0 := ⟨_, rfl⟩
          obtain ⟨c9, f3⟩ : ∃ q : Int, q = 0 := ⟨_, rfl⟩
          obtain ⟨l9, f4⟩ : ∃ q : Int, q = 0 := ⟨_, rfl⟩
          obtain ⟨e9, f5⟩ : ∃ q : Int, q = 0 := ⟨_, rfl⟩
          obtain ⟨t9, f6⟩ : ∃ q : Int, q = 0 := ⟨_, rfl⟩
          obtain ⟨d9, f7⟩ : ∃ q : Bool, q = false := ⟨_, rfl⟩
          obtain ⟨pn, f8⟩ : ∃ q : Nat, q = 0 := ⟨_, rfl⟩
          obtain ⟨un, f9⟩ : ∃ q : Nat, q = 0 := ⟨_, rfl⟩
          obtain ⟨Q9, f10⟩ : ∃ q : List Int, q = [] := ⟨_, rfl⟩
          have SB : Hid (∀ w0, Below wr.heap.size wr w0 → Calls Tryd.prog 32 #[.agg (ints .i64 [g0, g1, (S : Int), g3, g4, g5]), .slice zo zn zc] w0 fun x w' => ∃ po pc uo uc, x = .returned (.agg (pg10 kd9 n9 c9 l9 e9 t9 (.slice po pn pc) (.slice uo un uc) d9 false).toArray) ∧ Byt w' (.slice po pn pc) Q9 ∧ Below w0.heap.size w0 w') := fun w0 q => (rpread_no g0 g1 g3 g4 g5 S _ _ w0 (HZB.out.below q) (by rw [EN.out]; exact hl) ht).mono fun x w' ⟨h1, h2⟩ => by
            subst f1 f2 f3 f4 f5 f6 f7 f8 f9 f10
            exact ⟨none, 0, none, 0, h1, Byt.nil _, h2⟩
          have NK : Hid (¬ Khd S ls) := fun h => ht ((HX.out.1 h).1 k hlt).2.1
          have K0 : Hid (false = true → e9 = KG) := fun h => absurd h Bool.false_ne_true
          clear f1 f2 f3 f4 f5 f6 f7 f8 f9 f10 ht hl
          have ZB : Hid (((zn : Int) != (S : Int) + 88) = false) := ZB0.out
          go_wp2
          refine wp_region_held_drew (S := fun w' => Below wr.heap.size wr w') (by kernel_rfl) (Below.refl _ _).drew (fun hS => ?_)
          obtain ⟨x1, hx0⟩ : ∃ x, x = wr.drew := ⟨_, rfl⟩
          rw [← hx0] at hS  ⊢
          clear hx0
          refine take_lawH 0 (some 22) (.slice (some ⟨b, off, none⟩) n cap) rfl rfl (by kernel_rfl) (by kernel_rfl) (by kernel_rfl) (fun _ _ _ h => h) (Or.inl ⟨by rfl, fun w' hw' => by rfl⟩) hS ?_
          simp only [Act.put, List.setIfInBounds_toArray, List.set_cons_zero, List.set_cons_succ]
          refine take_lawH 1 (some 23) (.int .i64 (k : Int)) rfl rfl (by kernel_rfl) (by kernel_rfl) (by kernel_rfl) (fun _ _ _ h => h) (Or.inl ⟨by rfl, fun w' hw' => by rfl⟩) hS ?_
          simp only [Act.put, List.setIfInBounds_toArray, List.set_cons_zero, List.set_cons_succ]
          refine take_lawH 2 (some 24) (.pointer (some ⟨b, off + k, none⟩)) rfl rfl (by kernel_rfl) (by kernel_rfl) (by kernel_rfl) (fun _ _ _ h => h) (Or.inl ⟨by rfl, fun w' hw' => by exact exec_idxR (.tmp 22) (.tmp 23) rfl b off n cap k rfl rfl KN.out _⟩) hS ?_
          simp only [Act.put, List.setIfInBounds_toArray, List.set_cons_zero, List.set_cons_succ]
          refine take_lawH 3 (some 25) (.slice zo zn zc) rfl rfl (by kernel_rfl) (by kernel_rfl) (by kernel_rfl) (fun _ _ _ h => h) (Or.inl ⟨by rfl, fun w' hw' => by exact exec_loadN 24 (.tmp 24) rfl _ rfl _ _ (load_one one_bytes (HZ.out _ hw'))⟩) hS ?_
          simp only [Act.put, List.setIfInBounds_toArray, List.set_cons_zero, List.set_cons_succ]
          refine take_lawH 4 (some 26) (.int .i64 (zn : Int)) rfl rfl (by kernel_rfl) (by kernel_rfl) (by kernel_rfl) (fun _ _ _ h => h) (Or.inl ⟨by rfl, fun w' hw' => by exact exec_lenB (.tmp 25) rfl zo zn zc rfl _⟩) hS ?_
          simp only [Act.put, List.setIfInBounds_toArray, List.set_cons_zero, List.set_cons_succ]
          refine take_lawH 5 (some 27) (.pointer (some ⟨w.heap.size, 2, none⟩)) rfl rfl (by kernel_rfl) (by kernel_rfl) (by kernel_rfl) (fun _ _ _ h => h) (Or.inl ⟨by rfl, fun w' hw' => by go_simp⟩) hS ?_
          simp only [Act.put, List.setIfInBounds_toArray, List.set_cons_zero, List.set_cons_succ]
          refine take_lawH 6 (some 28) (.int .i64 (S : Int)) rfl rfl (by kernel_rfl) (by kernel_rfl) (by kernel_rfl) (fun _ _ _ h => h) (Or.inl ⟨by rfl, fun w' hw' => by exact exec_loadN 3 (.tmp 27) rfl _ rfl _ _ (ld_int ((HB0.out.below hw' (range_lt HB0.out.1 (Nat.succ_pos _))).cell 2 _ rfl))⟩) hS ?_
          simp only [Act.put, List.setIfInBounds_toArray, List.set_cons_zero, List.set_cons_succ]
          refine take_lawH 7 (some 29) (.int .i64 ((S : Int) + 88)) rfl rfl (by kernel_rfl) (by kernel_rfl) (by kernel_rfl) (fun _ _ _ h => h) (Or.inl ⟨by rfl, fun w' hw' => by exact exec_add (.tmp 28) (.const (.int .i64 88)) rfl (S : Int) 88 _ rfl rfl S88.out⟩) hS ?_
          simp only [Act.put, List.setIfInBounds_toArray, List.set_cons_zero, List.set_cons_succ]
          refine take_lawH 8 (some 30) (.bool false) rfl rfl (by kernel_rfl) (by kernel_rfl) (by kernel_rfl) (fun _ _ _ h => h) (Or.inl ⟨by rfl, fun w' hw' => by exact exec_neqI (.tmp 26) (.tmp 29) rfl (zn : Int) ((S : Int) + 88) rfl rfl false ZB.out _⟩) hS ?_
          simp only [Act.put, List.setIfInBounds_toArray, List.set_cons_zero, List.set_cons_succ]
          refine wpAnyH_done (by kernel_rfl) ?_ _
          obtain ⟨wx, ex⟩ : ∃ q, q = x1 := ⟨_, rfl⟩
          rw [← ex] at hS ⊢
          clear ex
          have NB_H4 : Hid (NoB wx c4) := NB_H4.out.heap (hS.block _ (range_lt H4.out.1 (Nat.succ_pos _)))
          have H4 : Hid (Vr wx c4 Z3) := H4.out.below hS (range_lt H4.out.1 (Nat.succ_pos _))
          have HB0 : Hid (Vr wx w.heap.size [.int .i64 g0, .int .i64 g1, .int .i64 (S : Int), .int .i64 g3, .int .i64 g4, .int .i64 g5]) := HB0.out.below hS (range_lt HB0.out.1 (Nat.succ_pos _))
          have NB_H6 : Hid (NoB wx c6) := NB_H6.out.heap (hS.block _ (range_lt H6.out.1 (Nat.succ_pos _)))
          have H6 : Hid (Vr wx c6 (hdl G0 (.slice ro rn rc) true)) := H6.out.below hS (range_lt H6.out.1 (Nat.succ_pos _))
          have HY : Hid (Byt wx (.slice ro rn rc) (parts F k)) := HY.out.below hS
          have BX : Hid (Below wr.heap.size wr wx) := hS
          have BB : Hid (Below w.heap.size w wx) := BB.out.trans (hS.mono BB.out.size)
          clear hS
          go_wp2
          have t1 : (1 : Nat) = 1 := rfl
          go_cut [8] (fun r8 wc => ∃ (gv : Nat) (po : Option Addr) (pc : Nat) (uo : Option Addr) (uc : Nat), r8 = .pointer (some ⟨gv, 0, none⟩) ∧ Vr wc gv (pg10 kd9 n9 c9 l9 e9 t9 (.slice po pn pc) (.slice uo un uc) d9 false) ∧ Byt wc (.slice po pn pc) Q9 ∧ wx.heap.size ≤ gv ∧ Below wx.heap.size wx wc)
          case first =>
            refine wp_region_held_drew (S := fun w' => Below wx.heap.size wx w') (by kernel_rfl) (Below.refl _ _).drew (fun hS => ?_)
            obtain ⟨y1, hx0⟩ : ∃ x, x = wx.drew := ⟨_, rfl⟩
            rw [← hx0] at hS  ⊢
            clear hx0
            refine take_lawH 0 (some 32) (.agg ([.int .i64 g0, .int .i64 g1, .int .i64 (S : Int), .int .i64 g3, .int .i64 g4, .int .i64 g5] : List Value).toArray) rfl rfl (by kernel_rfl) (by kernel_rfl) (by kernel_rfl) (fun _ _ _ h => h) (Or.inl ⟨by rfl, fun w' hw' => by exact exec_loadN 23 (.tmp 2) rfl _ rfl _ _ (load_cells rowy_geo (HB0.out.below hw' (range_lt HB0.out.1 (Nat.succ_pos _))).1)⟩) hS ?_
            simp only [Act.put, List.setIfInBounds_toArray, List.set_cons_zero, List.set_cons_succ]
            refine take_lawH 1 (some 33) (.slice (some ⟨b, off, none⟩) n cap) rfl rfl (by kernel_rfl) (by kernel_rfl) (by kernel_rfl) (fun _ _ _ h => h) (Or.inl ⟨by rfl, fun w' hw' => by rfl⟩) hS ?_
            simp only [Act.put, List.setIfInBounds_toArray, List.set_cons_zero, List.set_cons_succ]
            refine take_lawH 2 (some 34) (.int .i64 (k : Int)) rfl rfl (by kernel_rfl) (by kernel_rfl) (by kernel_rfl) (fun _ _ _ h => h) (Or.inl ⟨by rfl, fun w' hw' => by rfl⟩) hS ?_
            simp only [Act.put, List.setIfInBounds_toArray, List.set_cons_zero, List.set_cons_succ]
            refine take_lawH 3 (some 35) (.pointer (some ⟨b, off + k, none⟩)) rfl rfl (by kernel_rfl) (by kernel_rfl) (by kernel_rfl) (fun _ _ _ h => h) (Or.inl ⟨by rfl, fun w' hw' => by exact exec_idxR (.tmp 33) (.tmp 34) rfl b off n cap k rfl rfl KN.out _⟩) hS ?_
            simp only [Act.put, List.setIfInBounds_toArray, List.set_cons_zero, List.set_cons_succ]
            refine take_lawH 4 (some 36) (.slice zo zn zc) rfl rfl (by kernel_rfl) (by kernel_rfl) (by kernel_rfl) (fun _ _ _ h => h) (Or.inl ⟨by rfl, fun w' hw' => by exact exec_loadN 24 (.tmp 35) rfl _ rfl _ _ (load_one one_bytes (HZ.out _ (BX.out.trans (hw'.mono BX.out.size))))⟩) hS ?_
            simp only [Act.put, List.setIfInBounds_toArray, List.set_cons_zero, List.set_cons_succ]
            refine wpAnyH_ready (rs := [5, 6]) (by kernel_rfl) (by simp) ?_
            refine AllReadyH.cons rfl (fun K hK => ?_) (AllReadyH.cons rfl (fun K hK => ?_) AllReadyH.nil)
            · refine step_callW _ (by rfl) (some 37) rfl 32 #[.tmp 32, .tmp 36] #[23, 24] rfl (fun q w' => by rfl) #[.agg ([.int .i64 g0, .int .i64 g1, .int .i64 (S : Int), .int .i64 g3, .int .i64 g4, .int .i64 g5] : List Value).toArray, .slice zo zn zc] (by simp only [List.map_toArray, List.map_cons, List.map_nil]; rfl) (fun u w' => (∃ po pc uo uc, u = .agg (pg10 kd9 n9 c9 l9 e9 t9 (.slice po pn pc) (.slice uo un uc) d9 false).toArray ∧ Byt w' (.slice po pn pc) Q9) ∧ Below y1.heap.size y1 w') ?_ ?_
              · exact (SB.out y1 (BX.out.trans (hS.mono BX.out.size))).mono fun e w' ⟨po, pc, uo, uc, h1, h2, h3⟩ => ⟨_, h1, ⟨po, pc, uo, uc, rfl, h2⟩, h3⟩
              rintro _ y2 ⟨⟨po, pc, uo, uc, rfl, y9⟩, hb⟩
              have HP : Hid (Byt y2 (.slice po pn pc) Q9) := y9
              clear y9
              have hS : Below wx.heap.size wx y2 := hS.trans (hb.mono hS.size)
              clear hb
              refine hK.out _ _ hS (fun _ => ?_)
              simp only [Act.put, List.setIfInBounds_toArray, List.set_cons_zero, List.set_cons_succ]
              clear hK K
              refine wpAnyH_ready (rs := [6]) (by kernel_rfl) (by simp) ?_
              refine AllReadyH.cons rfl (fun K hK => ?_) AllReadyH.nil
              refine step_newN _ rfl (some 8) rfl 70 rfl Z10 zero_rpage (pg10_nob _ _ _ _ _ _ _ _ _ _ _ _ _ _) ?_
              intro y3 v9 nb9 hb
              have HP : Hid (Byt y3 (.slice po pn pc) Q9) := HP.out.below hb
              have HV : Hid (Vr y3 y2.heap.size Z10) := v9
              have NV : Hid (NoB y3 y2.heap.size) := nb9
              have LV : Hid (wx.heap.size ≤ y2.heap.size) := hS.size
              have hS : Below wx.heap.size wx y3 := hS.trans (hb.mono hS.size)
              clear v9 nb9 hb
              obtain ⟨gv, hg9⟩ : ∃ g, g = y2.heap.size := ⟨_, rfl⟩
              rw [← hg9] at HV NV LV ⊢
              clear hg9
              refine hK.out _ _ hS (fun _ => ?_)
              simp only [Act.put, List.setIfInBounds_toArray, List.set_cons_zero, List.set_cons_succ]
              clear hK K
              refine wpAnyH_ready (rs := [7]) (by kernel_rfl) (by simp) ?_
              refine AllReadyH.cons rfl (fun K hK => ?_) AllReadyH.nil
              refine step_storeN _ rfl none rfl (.tmp 8) (.tmp 37) 70 rfl gv Z10 (pg10 kd9 n9 c9 l9 e9 t9 (.slice po pn pc) (.slice uo un uc) d9 false) rfl rfl HV.out NV.out rfl rowy_rpage.2 (pg10_one _ _ _ _ _ _ _ _ _ _ _ _ _ _) (pg10_nob _ _ _ _ _ _ _ _ _ _ _ _ _ _) ?_
              intro y4 v9 nb9 B9 k9
              have HP : Hid (Byt y4 (.slice po pn pc) Q9) := byt_nob HP.out NV.out k9
              have HV : Hid (Vr y4 gv (pg10 kd9 n9 c9 l9 e9 t9 (.slice po pn pc) (.slice uo un uc) d9 false)) := v9
              have hS : Below wx.heap.size wx y4 := hS.trans (B9.mono LV.out)
              clear v9 nb9 B9 k9
              refine hK.out _ _ hS (fun _ => ?_)
              simp only [Act.put]
              clear hK K
              refine wpAnyH_done (by kernel_rfl) ?_ _
              go_wp2_with fail
              go_meet
              exact ⟨gv, po, pc, uo, uc, rfl, HV.out, HP.out, LV.out, hS⟩
            · refine step_newN _ rfl (some 8) rfl 70 rfl Z10 zero_rpage (pg10_nob _ _ _ _ _ _ _ _ _ _ _ _ _ _) ?_
              intro y5 v9 nb9 hb
              have HV : Hid (Vr y5 y1.heap.size Z10) := v9
              have NV : Hid (NoB y5 y1.heap.size) := nb9
              have LV : Hid (wx.heap.size ≤ y1.heap.size) := hS.size
              have hS : Below wx.heap.size wx y5 := hS.trans (hb.mono hS.size)
              clear v9 nb9 hb
              obtain ⟨gv, hg9⟩ : ∃ g, g = y1.heap.size := ⟨_, rfl⟩
              rw [← hg9] at HV NV LV ⊢
              clear hg9
              refine hK.out _ _ hS (fun _ => ?_)
              simp only [Act.put, List.setIfInBounds_toArray, List.set_cons_zero, List.set_cons_succ]
              clear hK K
              refine wpAnyH_ready (rs := [5]) (by kernel_rfl) (by simp) ?_
              refine AllReadyH.cons rfl (fun K hK => ?_) AllReadyH.nil
              refine step_callW _ (by rfl) (some 37) rfl 32 #[.tmp 32, .tmp 36] #[23, 24] rfl (fun q w' => by rfl) #[.agg ([.int .i64 g0, .int .i64 g1, .int .i64 (S : Int), .int .i64 g3, .int .i64 g4, .int .i64 g5] : List Value).toArray, .slice zo zn zc] (by simp only [List.map_toArray, List.map_cons, List.map_nil]; rfl) (fun u w' => (∃ po pc uo uc, u = .agg (pg10 kd9 n9 c9 l9 e9 t9 (.slice po pn pc) (.slice uo un uc) d9 false).toArray ∧ Byt w' (.slice po pn pc) Q9) ∧ Below y5.heap.size y5 w') ?_ ?_
              · exact (SB.out y5 (BX.out.trans (hS.mono BX.out.size))).mono fun e w' ⟨po, pc, uo, uc, h1, h2, h3⟩ => ⟨_, h1, ⟨po, pc, uo, uc, rfl, h2⟩, h3⟩
              rintro _ y6 ⟨⟨po, pc, uo, uc, rfl, y9⟩, hb⟩
              have HP : Hid (Byt y6 (.slice po pn pc) Q9) := y9
              have NV : Hid (NoB y6 gv) := NV.out.heap (hb.block _ (range_lt HV.out.1 (Nat.succ_pos _)))
              have HV : Hid (Vr y6 gv Z10) := HV.out.below hb (range_lt HV.out.1 (Nat.succ_pos _))
              clear y9
              have hS : Below wx.heap.size wx y6 := hS.trans (hb.mono hS.size)
              clear hb
              refine hK.out _ _ hS (fun _ => ?_)
              simp only [Act.put, List.setIfInBounds_toArray, List.set_cons_zero, List.set_cons_succ]
              clear hK K
              refine wpAnyH_ready (rs := [7]) (by kernel_rfl) (by simp) ?_
              refine AllReadyH.cons rfl (fun K hK => ?_) AllReadyH.nil
              refine step_storeN _ rfl none rfl (.tmp 8) (.tmp 37) 70 rfl gv Z10 (pg10 kd9 n9 c9 l9 e9 t9 (.slice po pn pc) (.slice uo un uc) d9 false) rfl rfl HV.out NV.out rfl rowy_rpage.2 (pg10_one _ _ _ _ _ _ _ _ _ _ _ _ _ _) (pg10_nob _ _ _ _ _ _ _ _ _ _ _ _ _ _) ?_
              intro y7 v9 nb9 B9 k9
              have HP : Hid (Byt y7 (.slice po pn pc) Q9) := byt_nob HP.out NV.out k9
              have HV : Hid (Vr y7 gv (pg10 kd9 n9 c9 l9 e9 t9 (.slice po pn pc) (.slice uo un uc) d9 false)) := v9
              have hS : Below wx.heap.size wx y7 := hS.trans (B9.mono LV.out)
              clear v9 nb9 B9 k9
              refine hK.out _ _ hS (fun _ => ?_)
              simp only [Act.put]
              clear hK K
              refine wpAnyH_done (by kernel_rfl) ?_ _
              go_wp2_with fail
              go_meet
              exact ⟨gv, po, pc, uo, uc, rfl, HV.out, HP.out, LV.out, hS⟩
          case rest =>
            obtain ⟨gv, po, pc, uo, uc, rfl, x1, x2, x3, x4⟩ := hcut
            have HV : Hid (Vr wc gv (pg10 kd9 n9 c9 l9 e9 t9 (.slice po pn pc) (.slice uo un uc) d9 false)) := x1
            have HP : Hid (Byt wc (.slice po pn pc) Q9) := x2
            have LT8 : Hid (c6 < gv) := Nat.lt_of_lt_of_le (range_lt H6.out.1 (Nat.succ_pos _)) x3
            have NB_H4 : Hid (NoB wc c4) := NB_H4.out.heap (x4.block _ (range_lt H4.out.1 (Nat.succ_pos _)))
            have H4 : Hid (Vr wc c4 Z3) := H4.out.below x4 (range_lt H4.out.1 (Nat.succ_pos _))
            have HB0 : Hid (Vr wc w.heap.size [.int .i64 g0, .int .i64 g1, .int .i64 (S : Int), .int .i64 g3, .int .i64 g4, .int .i64 g5]) := HB0.out.below x4 (range_lt HB0.out.1 (Nat.succ_pos _))
            have NB_H6 : Hid (NoB wc c6) := NB_H6.out.heap (x4.block _ (range_lt H6.out.1 (Nat.succ_pos _)))
            have H6 : Hid (Vr wc c6 (hdl G0 (.slice ro rn rc) true)) := H6.out.below x4 (range_lt H6.out.1 (Nat.succ_pos _))
            have HY : Hid (Byt wc (.slice ro rn rc) (parts F k)) := HY.out.below x4
            have BB : Hid (Below w.heap.size w wc) := BB.out.trans (x4.mono BB.out.size)
            have hv_4 : wc.cell? ⟨gv, 4, none⟩ = some (.int .u64 e9) := HV.out.cell 4 _ rfl
            clear x1 x2 x3 x4 HZ HZB BX SB
            go_upto_if 39 with fail
            go_cut [] (fun wc => ∃ G : Int, Vr wc c6 (hdl G (.slice ro rn rc) true) ∧ NoB wc c6 ∧ Vr wc w.heap.size [.int .i64 g0, .int .i64 g1, .int .i64 (S : Int), .int .i64 g3, .int .i64 g4, .int .i64 g5] ∧ (Vr wc c4 Z3 ∧ NoB wc c4) ∧ Vr wc gv (pg10 kd9 n9 c9 l9 e9 t9 (.slice po pn pc) (.slice uo un uc) d9 false) ∧ Byt wc (.slice po pn pc) Q9 ∧ Byt wc (.slice ro rn rc) (parts F k) ∧ (false = true → G = KG) ∧ Below w.heap.size w wc)
            case first =>
              by_cases hk0 : k = 0
              · subst hk0
                have t80 : (1 : Nat) = 1 := rfl
                go_wp2_with (have q80 := t80; (with_reducible refine at_store ?_); refine set_lawK _ (hdl G0 (.slice ro rn rc) true) c6 0 (.int .u64 e9) rfl rfl H6.out NB_H6.out (show (0 : Nat) < 3 by decide) rfl rfl (fun y z => by cases z) one_u64.2 ?_; intro wd v9 nb9 B9 k9; have HP : Hid (Byt wd (.slice po pn pc) Q9) := byt_nob HP.out NB_H6.out k9; have HY : Hid (Byt wd (.slice ro rn rc) (parts F 0)) := byt_nob HY.out NB_H6.out k9; have HB0 : Hid (Vr wd w.heap.size [.int .i64 g0, .int .i64 g1, .int .i64 (S : Int), .int .i64 g3, .int .i64 g4, .int .i64 g5]) := HB0.out.heap (k9 _ (Nat.ne_of_lt LT0.out)); have NB_H4 : Hid (NoB wd c4) := NB_H4.out.heap (k9 _ (Nat.ne_of_lt LT4.out)); have H4 : Hid (Vr wd c4 Z3) := H4.out.heap (k9 _ (Nat.ne_of_lt LT4.out)); have HV : Hid (Vr wd gv (pg10 kd9 n9 c9 l9 e9 t9 (.slice po pn pc) (.slice uo un uc) d9 false)) := HV.out.heap (k9 _ (Nat.ne_of_gt LT8.out)); have H6 : Hid (Vr wd c6 (hdl e9 (.slice ro rn rc) true)) := v9; have NB_H6 : Hid (NoB wd c6) := nb9; have BB : Hid (Below w.heap.size w wd) := BB.out.trans (B9.mono (Nat.le_of_lt LT0.out)); clear v9 nb9 B9 k9 t80)
                go_meet
                exact ⟨_, H6.out, NB_H6.out, HB0.out, ⟨H4.out, NB_H4.out⟩, HV.out, HP.out, HY.out, K0.out, BB.out⟩
              · have nk0 : ((k : Int) == 0) = false := beq_eq_false_iff_ne.2 (by omega)
                go_wp2_with fail
                go_meet
                exact ⟨_, H6.out, NB_H6.out, HB0.out, ⟨H4.out, NB_H4.out⟩, HV.out, HP.out, HY.out, fun _ => GK.out (by omega), BB.out⟩
            case rest =>
              obtain ⟨G, x1, x2, x3, ⟨x4, x5⟩, x6, x7, x8, x9, x10⟩ := hcut
              clear H6 NB_H6 HB0 H4 NB_H4 HV HP HY BB hv_4
              have H6 : Hid (Vr wc c6 (hdl G (.slice ro rn rc) true)) := x1
              have NB_H6 : Hid (NoB wc c6) := x2
              have HB0 : Hid (Vr wc w.heap.size [.int .i64 g0, .int .i64 g1, .int .i64 (S : Int), .int .i64 g3, .int .i64 g4, .int .i64 g5]) := x3
              have H4 : Hid (Vr wc c4 Z3) := x4
              have NB_H4 : Hid (NoB wc c4) := x5
              have HV : Hid (Vr wc gv (pg10 kd9 n9 c9 l9 e9 t9 (.slice po pn pc) (.slice uo un uc) d9 false)) := x6
              have HP : Hid (Byt wc (.slice po pn pc) Q9) := x7
              have HY : Hid (Byt wc (.slice ro rn rc) (parts F k)) := x8
              have BB : Hid (Below w.heap.size w wc) := x10
              clear x1 x2 x3 x4 x5 x6 x7 x8 x10 x9
              go_wp2
              refine wp_region_held_drew (S := fun w' => Below wc.heap.size wc w') (by kernel_rfl) (Below.refl _ _).drew (fun hS => ?_)
              obtain ⟨y1, hx0⟩ : ∃ x, x = wc.drew := ⟨_, rfl⟩
              rw [← hx0] at hS  ⊢
              clear hx0
              refine take_lawH 0 (some 44) (.pointer (some ⟨gv, 9, none⟩)) rfl rfl (by kernel_rfl) (by kernel_rfl) (by kernel_rfl) (fun _ _ _ h => h) (Or.inl ⟨by rfl, fun w' hw' => by go_simp⟩) hS ?_
              simp only [Act.put, List.setIfInBounds_toArray, List.set_cons_zero, List.set_cons_succ]
              refine take_lawH 1 (some 45) (.bool false) rfl rfl (by kernel_rfl) (by kernel_rfl) (by kernel_rfl) (fun _ _ _ h => h) (Or.inl ⟨by rfl, fun w' hw' => by exact exec_loadN 4 (.tmp 44) rfl _ rfl _ _ (load_one one_bool ((HV.out.below hw' (range_lt HV.out.1 (Nat.succ_pos _))).cell 9 _ rfl))⟩) hS ?_
              simp only [Act.put, List.setIfInBounds_toArray, List.set_cons_zero, List.set_cons_succ]
              refine take_lawH 2 (some 46) (.bool true) rfl rfl (by kernel_rfl) (by kernel_rfl) (by kernel_rfl) (fun _ _ _ h => h) (Or.inl ⟨by rfl, fun w' hw' => by exact exec_notB (.tmp 45) rfl false _ rfl rfl _⟩) hS ?_
              simp only [Act.put, List.setIfInBounds_toArray, List.set_cons_zero, List.set_cons_succ]
              refine take_lawH 3 (some 47) (.bool true) rfl rfl (by kernel_rfl) (by kernel_rfl) (by kernel_rfl) (fun _ _ _ h => h) (Or.inl ⟨by rfl, fun w' hw' => by rfl⟩) hS ?_
              simp only [Act.put, List.setIfInBounds_toArray, List.set_cons_zero, List.set_cons_succ]
              refine take_lawH 4 (some 48) (undef) rfl rfl (by kernel_rfl) (by kernel_rfl) (by kernel_rfl) (fun _ _ _ h => h) (Or.inr ⟨by rfl, rfl⟩) hS ?_
              simp only [Act.put, List.setIfInBounds_toArray, List.set_cons_zero, List.set_cons_succ]
              refine take_lawH 5 (some 49) (undef) rfl rfl (by kernel_rfl) (by kernel_rfl) (by kernel_rfl) (fun _ _ _ h => h) (Or.inr ⟨by rfl, rfl⟩) hS ?_
              simp only [Act.put, List.setIfInBounds_toArray, List.set_cons_zero, List.set_cons_succ]
              refine take_lawH 6 (some 50) (undef) rfl rfl (by kernel_rfl) (by kernel_rfl) (by kernel_rfl) (fun _ _ _ h => h) (Or.inr ⟨by rfl, rfl⟩) hS ?_
              simp only [Act.put, List.setIfInBounds_toArray, List.set_cons_zero, List.set_cons_succ]
              refine take_lawH 7 (some 51) (undef) rfl rfl (by kernel_rfl) (by kernel_rfl) (by kernel_rfl) (fun _ _ _ h => h) (Or.inr ⟨by rfl, rfl⟩) hS ?_
              simp only [Act.put, List.setIfInBounds_toArray, List.set_cons_zero, List.set_cons_succ]
              refine take_lawH 8 (some 52) (undef) rfl rfl (by kernel_rfl) (by kernel_rfl) (by kernel_rfl) (fun _ _ _ h => h) (Or.inr ⟨by rfl, rfl⟩) hS ?_
              simp only [Act.put, List.setIfInBounds_toArray, List.set_cons_zero, List.set_cons_succ]
              refine take_lawH 9 (some 53) (undef) rfl rfl (by kernel_rfl) (by kernel_rfl) (by kernel_rfl) (fun _ _ _ h => h) (Or.inr ⟨by rfl, rfl⟩) hS ?_
              simp only [Act.put, List.setIfInBounds_toArray, List.set_cons_zero, List.set_cons_succ]
              refine take_lawH 10 (some 54) (undef) rfl rfl (by kernel_rfl) (by kernel_rfl) (by kernel_rfl) (fun _ _ _ h => h) (Or.inr ⟨by rfl, rfl⟩) hS ?_
              simp only [Act.put, List.setIfInBounds_toArray, List.set_cons_zero, List.set_cons_succ]
              refine take_lawH 11 (some 55) (undef) rfl rfl (by kernel_rfl) (by kernel_rfl) (by kernel_rfl) (fun _ _ _ h => h) (Or.inr ⟨by rfl, rfl⟩) hS ?_
              simp only [Act.put, List.setIfInBounds_toArray, List.set_cons_zero, List.set_cons_succ]
              refine take_lawH 12 (some 56) (.bool true) rfl rfl (by kernel_rfl) (by kernel_rfl) (by kernel_rfl) (fun _ _ _ h => h) (Or.inl ⟨by rfl, fun w' hw' => by rfl⟩) hS ?_
              simp only [Act.put, List.setIfInBounds_toArray, List.set_cons_zero, List.set_cons_succ]
              refine take_lawH 13 (some 57) (.bool true) rfl rfl (by kernel_rfl) (by kernel_rfl) (by kernel_rfl) (fun _ _ _ h => h) (Or.inl ⟨by rfl, fun w' hw' => by rfl⟩) hS ?_
              simp only [Act.put, List.setIfInBounds_toArray, List.set_cons_zero, List.set_cons_succ]
              refine take_lawH 14 (some 58) (undef) rfl rfl (by kernel_rfl) (by kernel_rfl) (by kernel_rfl) (fun _ _ _ h => h) (Or.inr ⟨by rfl, rfl⟩) hS ?_
              simp only [Act.put, List.setIfInBounds_toArray, List.set_cons_zero, List.set_cons_succ]
              refine take_lawH 15 (some 59) (undef) rfl rfl (by kernel_rfl) (by kernel_rfl) (by kernel_rfl) (fun _ _ _ h => h) (Or.inr ⟨by rfl, rfl⟩) hS ?_
              simp only [Act.put, List.setIfInBounds_toArray, List.set_cons_zero, List.set_cons_succ]
              refine take_lawH 16 (some 60) (undef) rfl rfl (by kernel_rfl) (by kernel_rfl) (by kernel_rfl) (fun _ _ _ h => h) (Or.inr ⟨by rfl, rfl⟩) hS ?_
              simp only [Act.put, List.setIfInBounds_toArray, List.set_cons_zero, List.set_cons_succ]
              refine take_lawH 17 (some 61) (undef) rfl rfl (by kernel_rfl) (by kernel_rfl) (by kernel_rfl) (fun _ _ _ h => h) (Or.inr ⟨by rfl, rfl⟩) hS ?_
              simp only [Act.put, List.setIfInBounds_toArray, List.set_cons_zero, List.set_cons_succ]
              refine take_lawH 18 (some 62) (undef) rfl rfl (by kernel_rfl) (by kernel_rfl) (by kernel_rfl) (fun _ _ _ h => h) (Or.inr ⟨by rfl, rfl⟩) hS ?_
              simp only [Act.put, List.setIfInBounds_toArray, List.set_cons_zero, List.set_cons_succ]
              refine take_lawH 19 (some 63) (undef) rfl rfl (by kernel_rfl) (by kernel_rfl) (by kernel_rfl) (fun _ _ _ h => h) (Or.inr ⟨by rfl, rfl⟩) hS ?_
              simp only [Act.put, List.setIfInBounds_toArray, List.set_cons_zero, List.set_cons_succ]
              refine take_lawH 20 (some 64) (undef) rfl rfl (by kernel_rfl) (by kernel_rfl) (by kernel_rfl) (fun _ _ _ h => h) (Or.inr ⟨by rfl, rfl⟩) hS ?_
              simp only [Act.put, List.setIfInBounds_toArray, List.set_cons_zero, List.set_cons_succ]
              refine take_lawH 21 (some 65) (undef) rfl rfl (by kernel_rfl) (by kernel_rfl) (by kernel_rfl) (fun _ _ _ h => h) (Or.inr ⟨by rfl, rfl⟩) hS ?_
              simp only [Act.put, List.setIfInBounds_toArray, List.set_cons_zero, List.set_cons_succ]
              refine take_lawH 22 (some 66) (undef) rfl rfl (by kernel_rfl) (by kernel_rfl) (by kernel_rfl) (fun _ _ _ h => h) (Or.inr ⟨by rfl, rfl⟩) hS ?_
              simp only [Act.put, List.setIfInBounds_toArray, List.set_cons_zero, List.set_cons_succ]
              refine take_lawH 23 (some 67) (.bool true) rfl rfl (by kernel_rfl) (by kernel_rfl) (by kernel_rfl) (fun _ _ _ h => h) (Or.inl ⟨by rfl, fun w' hw' => by rfl⟩) hS ?_
              simp only [Act.put, List.setIfInBounds_toArray, List.set_cons_zero, List.set_cons_succ]
              refine wpAnyH_done (by kernel_rfl) ?_ _
              have NB_H4 : Hid (NoB y1 c4) := NB_H4.out.heap (hS.block _ (range_lt H4.out.1 (Nat.succ_pos _)))
              have H4 : Hid (Vr y1 c4 Z3) := H4.out.below hS (range_lt H4.out.1 (Nat.succ_pos _))
              have BB : Hid (Below w.heap.size w y1) := BB.out.trans (hS.mono BB.out.size)
              clear hS
              have t80 : (1 : Nat) = 1 := rfl
              go_wp2_with (first
                | (have q81 := t81; (with_reducible refine at_store ?_); refine store_lawC _ Z3 c4 0 rfl rfl H4.out.2 rowy_held.2 (hdl_one _ _ _ _ _) ?_; intro w91 E9 R9 T9 B9; have K9 : ∀ k, k ≠ c4 → w91.heap[k]? = y1.heap[k]? := (by rw [E9.out]; exact fun k hk => heap_cells _ _ _ _ k hk); have NB_H4 : Hid (NoB w91 c4) := (by rw [E9.out]; exact NB_H4.out.set H4.out rfl (hdl_nob _ _ _ _ _)); have H4 : Hid (Vr w91 c4 Z3) := ⟨R9, T9⟩; have BB : Hid (Below w.heap.size w w91) := BB.out.trans (B9.mono LE4.out); clear E9 R9 T9 B9 K9; clear t81; have t82 : (1 : Nat) = 1 := rfl)
                | (have q80 := t80; refine build_law _ rfl 39 _ rfl (.agg Z3.toArray) (by kernel_rfl) ?_; clear t80; have t81 : (1 : Nat) = 1 := rfl))
              exact bodyPost_ret (v := .agg Z3.toArray) (results_c rfl _ _ c4 _ rowy_held rfl H4.out.1) rfl ⟨.inr ⟨NK.out, rfl⟩, BB.out⟩
      · have ZB : Hid (((zn : Int) != (S : Int) + 88) = true) := bne_iff_ne.2 (by omega)
        have NK : Hid (¬ Khd S ls) := fun h => hl (by have q := ((HX.out.1 h).1 k hlt).1; rw [EN.out] at q; exact q)
        clear hl
        go_wp2
        refine wp_region_held_drew (S := fun w' => Below wr.heap.size wr w') (by kernel_rfl) (Below.refl _ _).drew (fun hS => ?_)
        obtain ⟨x1, hx0⟩ : ∃ x, x = wr.drew := ⟨_, rfl⟩
        rw [← hx0] at hS  ⊢
        clear hx0
        refine take_lawH 0 (some 22) (.slice (some ⟨b, off, none⟩) n cap) rfl rfl (by kernel_rfl) (by kernel_rfl) (by kernel_rfl) (fun _ _ _ h => h) (Or.inl ⟨by rfl, fun w' hw' => by rfl⟩) hS ?_
        simp only [Act.put, List.setIfInBounds_toArray, List.set_cons_zero, List.set_cons_succ]
        refine take_lawH 1 (some 23) (.int .i64 (k : Int)) rfl rfl (by kernel_rfl) (by kernel_rfl) (by kernel_rfl) (fun _ _ _ h => h) (Or.inl ⟨by rfl, fun w' hw' => by rfl⟩) hS ?_
        simp only [Act.put, List.setIfInBounds_toArray, List.set_cons_zero, List.set_cons_succ]
        refine take_lawH 2 (some 24) (.pointer (some ⟨b, off + k, none⟩)) rfl rfl (by kernel_rfl) (by kernel_rfl) (by kernel_rfl) (fun _ _ _ h => h) (Or.inl ⟨by rfl, fun w' hw' => by exact exec_idxR (.tmp 22) (.tmp 23) rfl b off n cap k rfl rfl KN.out _⟩) hS ?_
        simp only [Act.put, List.setIfInBounds_toArray, List.set_cons_zero, List.set_cons_succ]
        refine take_lawH 3 (some 25) (.slice zo zn zc) rfl rfl (by kernel_rfl) (by kernel_rfl) (by kernel_rfl) (fun _ _ _ h => h) (Or.inl ⟨by rfl, fun w' hw' => by exact exec_loadN 24 (.tmp 24) rfl _ rfl _ _ (load_one one_bytes (HZ.out _ hw'))⟩) hS ?_
        simp only [Act.put, List.setIfInBounds_toArray, List.set_cons_zero, List.set_cons_succ]
        refine take_lawH 4 (some 26) (.int .i64 (zn : Int)) rfl rfl (by kernel_rfl) (by kernel_rfl) (by kernel_rfl) (fun _ _ _ h => h) (Or.inl ⟨by rfl, fun w' hw' => by exact exec_lenB (.tmp 25) rfl zo zn zc rfl _⟩) hS ?_
        simp only [Act.put, List.setIfInBounds_toArray, List.set_cons_zero, List.set_cons_succ]
        refine take_lawH 5 (some 27) (.pointer (some ⟨w.heap.size, 2, none⟩)) rfl rfl (by kernel_rfl) (by kernel_rfl) (by kernel_rfl) (fun _ _ _ h => h) (Or.inl ⟨by rfl, fun w' hw' => by go_simp⟩) hS ?_
        simp only [Act.put, List.setIfInBounds_toArray, List.set_cons_zero, List.set_cons_succ]
        refine take_lawH 6 (some 28) (.int .i64 (S : Int)) rfl rfl (by kernel_rfl) (by kernel_rfl) (by kernel_rfl) (fun _ _ _ h => h) (Or.inl ⟨by rfl, fun w' hw' => by exact exec_loadN 3 (.tmp 27) rfl _ rfl _ _ (ld_int ((HB0.out.below hw' (range_lt HB0.out.1 (Nat.succ_pos _))).cell 2 _ rfl))⟩) hS ?_
        simp only [Act.put, List.setIfInBounds_toArray, List.set_cons_zero, List.set_cons_succ]
        refine take_lawH 7 (some 29) (.int .i64 ((S : Int) + 88)) rfl rfl (by kernel_rfl) (by kernel_rfl) (by kernel_rfl) (fun _ _ _ h => h) (Or.inl ⟨by rfl, fun w' hw' => by exact exec_add (.tmp 28) (.const (.int .i64 88)) rfl (S : Int) 88 _ rfl rfl S88.out⟩) hS ?_
        simp only [Act.put, List.setIfInBounds_toArray, List.set_cons_zero, List.set_cons_succ]
        refine take_lawH 8 (some 30) (.bool true) rfl rfl (by kernel_rfl) (by kernel_rfl) (by kernel_rfl) (fun _ _ _ h => h) (Or.inl ⟨by rfl, fun w' hw' => by exact exec_neqI (.tmp 26) (.tmp 29) rfl (zn : Int) ((S : Int) + 88) rfl rfl true ZB.out _⟩) hS ?_
        simp only [Act.put, List.setIfInBounds_toArray, List.set_cons_zero, List.set_cons_succ]
        refine wpAnyH_done (by kernel_rfl) ?_ _
        have NB_H4 : Hid (NoB x1 c4) := NB_H4.out.heap (hS.block _ (range_lt H4.out.1 (Nat.succ_pos _)))
        have H4 : Hid (Vr x1 c4 Z3) := H4.out.below hS (range_lt H4.out.1 (Nat.succ_pos _))
        have BB : Hid (Below w.heap.size w x1) := BB.out.trans (hS.mono BB.out.size)
        clear hS
        have t80 : (1 : Nat) = 1 := rfl
        go_wp2_with (first
          | (have q81 := t81; (with_reducible refine at_store ?_); refine store_lawC _ Z3 c4 0 rfl rfl H4.out.2 rowy_held.2 (hdl_one _ _ _ _ _) ?_; intro w91 E9 R9 T9 B9; have K9 : ∀ k, k ≠ c4 → w91.heap[k]? = x1.heap[k]? := (by rw [E9.out]; exact fun k hk => heap_cells _ _ _ _ k hk); have NB_H4 : Hid (NoB w91 c4) := (by rw [E9.out]; exact NB_H4.out.set H4.out rfl (hdl_nob _ _ _ _ _)); have H4 : Hid (Vr w91 c4 Z3) := ⟨R9, T9⟩; have BB : Hid (Below w.heap.size w w91) := BB.out.trans (B9.mono LE4.out); clear E9 R9 T9 B9 K9; clear t81; have t82 : (1 : Nat) = 1 := rfl)
          | (have q80 := t80; refine build_law _ rfl 39 _ rfl (.agg Z3.toArray) (by kernel_rfl) ?_; clear t80; have t81 : (1 : Nat) = 1 := rfl))
        exact bodyPost_ret (v := .agg Z3.toArray) (results_c rfl _ _ c4 _ rowy_held rfl H4.out.1) rfl ⟨.inr ⟨NK.out, rfl⟩, BB.out⟩
    · have ek : k = N := by omega
      subst ek
      have eG := GK.out (by omega)
      subst eG
      have KH : Hid (Khd S ls) := HX.out.2 ⟨HJ.out, HC9.out rfl⟩
      have PL : Hid (624 ≤ (parts F k).length) := (by
        have e : (parts F k).length = k * S := parts_len (n := k) (fun i hi => by rw [EF.out, List.length_take, (HJ.out i hi).1]; omega) k (Nat.le_refl _)
        show _ ≤ _
        rw [e]; exact HM.out)
      have h6_1 := H6.out.cell 1 _ rfl
      have t80 : (1 : Nat) = 1 := rfl
      go_wp2_with (first
        | (have q82 := t82; (with_reducible refine at_store ?_); refine store_lawC _ (hdl G0 (.slice vo 624 vc) true) c4 0 rfl rfl H4.out.2 rowy_held.2 (hdl_one _ _ _ _ _) ?_; intro we E9 R9 T9 B9; have K9 : ∀ k, k ≠ c4 → we.heap[k]? = wd.heap[k]? := (by rw [E9.out]; exact fun k hk => heap_cells _ _ _ _ k hk); have YV : Hid (Byt we (.slice vo 624 vc) ((parts F k).take 624)) := byt_nob YV.out NB_H4.out K9; have H4 : Hid (Vr we c4 (hdl G0 (.slice vo 624 vc) true)) := ⟨R9, T9⟩; have BB : Hid (Below w.heap.size w we) := BB.out.trans (B9.mono LE4.out); clear E9 R9 T9 B9 K9 t82)
        | (have q81 := t81; (with_reducible refine at_store ?_); refine set_lawK _ (hdl G0 (.slice ro rn rc) true) c6 1 (.slice vo 624 vc) rfl rfl H6.out NB_H6.out (show (1 : Nat) < 3 by decide) rfl rfl (fun y z => by cases z) one_bytes.2 ?_; intro wd v9 nb9 B9 k9; have YV : Hid (Byt wd (.slice vo 624 vc) ((parts F k).take 624)) := byt_nob YV.out NB_H6.out k9; have NB_H4 : Hid (NoB wd c4) := NB_H4.out.heap (k9 _ (Nat.ne_of_lt LT4.out)); have H4 : Hid (Vr wd c4 Z3) := H4.out.heap (k9 _ (Nat.ne_of_lt LT4.out)); have H6 : Hid (Vr wd c6 (hdl G0 (.slice vo 624 vc) true)) := v9; have BB : Hid (Below w.heap.size w wd) := BB.out.trans (B9.mono (Nat.le_of_lt LT0.out)); clear v9 nb9 B9 k9 t81 h6_1; have h6_0 := H6.out.cell 0 _ rfl; have h6_1 := H6.out.cell 1 _ rfl; have h6_2 := H6.out.cell 2 _ rfl; have t82 : (1 : Nat) = 1 := rfl)
        | (have q80 := t80; refine cut_to _ rfl (.tmp 78) (.const (.int .i64 624)) rfl (.slice ro rn rc) (parts F k) _ 624 rfl rfl rfl PL.out HY.out ?_; intro vv y9; have YV : Hid (Byt wr vv ((parts F k).take 624)) := y9; obtain ⟨vo, vc, e9⟩ := byt_form (n := 624) y9 (by rw [List.length_take]; have := PL.out; omega); subst e9; clear y9 t80; have t81 : (1 : Nat) = 1 := rfl))
      exact bodyPost_ret (v := .agg (hdl G0 (.slice vo 624 vc) true).toArray) (results_c rfl _ _ c4 _ rowy_held rfl H4.out.1) rfl ⟨.inl ⟨KH.out, vo, vc, by rw [EG.out], by rw [HKr.out]; exact YV.out⟩, BB.out⟩
/-- the reference's Hold, of a right geometry -/
theorem rhold_any (g0 g1 g3 g4 g5 : Int) (S : Nat) (v : Value) (ls : List (List Int)) (w : World) (hr : ge.Rt [g0, g1, (S : Int), g3, g4, g5]) (hp : Pgs w v ls) :
    Calls Tryd.prog 15 #[.agg (ints .i64 [g0, g1, (S : Int), g3, g4, g5]), v] w fun x w' => RHoldIs S ls x w' ∧ Below w.heap.size w w' := by
  have ⟨s1, s2⟩ := rt_sec hr
  have hn := nc_le s1 s2
  obtain ⟨ao, cap, rfl, h1, h2, h3⟩ := hp.at
  by_cases hl : ls.length < nc S
  · exact (rhold_few g0 g1 g3 g4 g5 S ao ls.length cap w hr hl).mono fun x w' ⟨e, hB⟩ => ⟨.inr ⟨khd_few hl, e⟩, hB⟩
  · obtain ⟨b, off, rfl, hall⟩ := h3 (by omega)
    exact rhold_in g0 g1 g3 g4 g5 S b off ls.length cap ls w hr (by omega) hall rfl
end Go.Proofs.YtahfcpdekjdceaaDoor.ck
