/- Texts put together (a claim holds few files). No claim of its own. -/
import Derived.Test.YtoohbigedblklaaPk31
import Derived.Test.YtoohbigedblklaaPk00
import Derived.Test.YtoohbigedblklaaPk19
import Derived.Laws.StructEq
namespace Go.Proofs.Ytoohbigedblklaa.na
open Go.RowKit Go.Proofs.Ytoohbigedblklaa.fa
set_option maxRecDepth 20000
def NoB (w : World) (g : Nat) : Prop := ∀ j y, w.cell? ⟨g, j, none⟩ ≠ some (.int .u8 y)
theorem NoB.heap {w w' : World} {g : Nat} (h : NoB w g) (e : w'.heap[g]? = w.heap[g]?) : NoB w' g := fun j y => by
 rw [World.cell?_of_block (w := w) (w' := w') (a := ⟨g, j, none⟩) e]
 exact h j y
theorem NoB.set {w : World} {g : Nat} {cs0 cs : List Value} (h : NoB w g) (hV : Vr w g cs0) (hl : cs0.length = cs.length) (hc : ∀ v ∈ cs, ∀ y, v ≠ .int .u8 y) : NoB (w.setCells g 0 cs) g := fun j y e => by
 by_cases hj : j < cs.length
 ·have := World.cell?_setCells_in g cs 0 w (fun i hi => by rw [Nat.zero_add]; exact hV.there1 i (by omega)) j hj
  rw [Nat.zero_add] at this
  rw [this] at e
  exact hc _ (List.getElem_mem hj) y (Option.some.inj e)
 ·rw [World.cell?_setCells_out g cs 0 w ⟨g, j, none⟩ (fun _ _ => Or.inr (by simp; omega))] at e
  exact h j y e
theorem chr_nobyte {g : List Int} {bq po : Option Addr} {bn bc pn pc : Nat} {o : Bool} {n : Int} : ∀ v ∈ chr g (.slice bq bn bc) (.slice po pn pc) o n, ∀ y, v ≠ .int .u8 y := by
 intro v hv y e
 subst e
 simp [chr] at hv
theorem Sim.putN {M : Nat → Bool} {w w' : World} {c r d : Nat} {q : Nat → Nat} {pv : Value} {g : List Int} {N P S : Nat} {pl : Pln} {s : St} {l : List Opn} {v : Value} {gW : Nat} (h : Sim M (one gW) w c r d q pv g N P S pl s l v) (hT : NoB w gW) (hM : M gW = false) (hg : w.grownBy w' (some gW)) : Sim M (one gW) w' c r d q pv g N P S pl s l v := by
 obtain ⟨tv, h1, h2, h3, h4⟩ := h
 have F : Frm (uni M (one gW)) w w' := Frm.grown hg (fun k e => by injection e with e; subst e; simp [uni, one])
 exact ⟨tv, h1.put hg hM hT (pla_less (h4.below F.hid0) fun k hk => by simp [uni, hk]), h2.below F.hid0, fun k hk => Nat.lt_of_lt_of_le (h3 k hk) hg.size, h4.below F.hid0⟩
theorem step_storeX {ops : Array Oper} {o : Oper} {a : Act} {Q : Exit → Act → World → Prop} {K : Act → World → Prop} {E : Prop} (w : World) (hg : o.guard = none) (d : Option Tmp) (hd : o.dst = d) (x y : Operand) (t : TypeId) (hop : o.op = Op.store t x y) (c : Nat) (cs0 cs : List Value) (hx : a.eval x = .pointer (some ⟨c, 0, none⟩)) (hy : a.eval y = .agg cs.toArray) (hV : Vr w c cs0) (hl : cs0.length = cs.length) (hs : (Try.prog.info? t).map (·.size) = some cs.length) (h1 : ∀ v ∈ cs, v.oneCell' = true)
  (hK : ∀ w', Hid (w' = w.setCells c 0 cs) → Vr w' c cs → K (a.put d undef) w') : if Region.wanted o (yielded ops a.tmps) = true then Oper.wp Try.prog o a w K Q else E := by
 have hw : Region.wanted o (yielded ops a.tmps) = true := by simp [Region.wanted, hg]
 rw [if_pos hw]
 subst hd
 have ht : w.there c 0 cs.length := by rw [← hl]; exact hV.2
 refine wp_store_mid t x y hop c 0 cs.toArray hx hy (by simpa using ht) (by simpa using hs) (all_oneCell_toArray h1) ?_
 exact hK _ rfl ⟨World.rangeAt_setCells_same w c 0 cs ht, World.there_setCells ht c 0 _⟩
theorem shp_of {g0 g1 g2 g3 g4 g5 : Int} (h : ge.Rt [g0, g1, g2, g3, g4, g5]) : ∃ N P S : Nat, g0 = N ∧ g1 = P ∧ Shp [(N : Int), P, g2, g3, g4, g5] N P S := by
 have h' := h
 obtain ⟨⟨a0, a1, a2, -⟩, -⟩ := h
 simp only [gb, List.getD, List.getElem?_cons_zero, List.getElem?_cons_succ, Option.getD_some] at a0 a1 a2
 obtain ⟨N, rfl⟩ : ∃ n : Nat, g0 = n := ⟨g0.toNat, by omega⟩
 obtain ⟨P, rfl⟩ : ∃ n : Nat, g1 = n := ⟨g1.toNat, by omega⟩
 exact ⟨N, P, (g2 + 88).toNat, rfl, rfl, rfl, h', rfl, rfl, by show g2 + 88 = _; omega⟩
end Go.Proofs.Ytoohbigedblklaa.na
namespace Go.Proofs.Ytoohbigedblklaa
open Go.RowKit
set_option maxRecDepth 20000
theorem not_same {xs ys : List Int} {k : Nat} (h : gb xs k ≠ gb ys k) : decide (xs = ys) = false := by
 simp only [decide_eq_false_iff_not]; intro e; exact h (by rw [e])
set_option maxHeartbeats 1000000 in
theorem same_any (w : World) (va vb : Value) (xs ys : List Int) (ha : Byt w va xs) (hb : Byt w vb ys) :
  Calls Try.prog 19 #[va, vb] w fun e w' => e = .returned (.bool (decide (xs = ys))) ∧ ∃ n, w' = w.drewN n := by
 obtain ⟨ao, ca, rfl, ha1, ha2, ha3, -, ha5⟩ := ha
 obtain ⟨bo, cb, rfl, hb1, hb2, hb3, -, hb5⟩ := hb
 by_cases hl : xs.length = ys.length
 ·have HL : Hid (xs.length = ys.length) := hl
  have HB5 : Hid (0 < xs.length → ∃ b off, bo = some ⟨b, off, none⟩ ∧ ∀ t, t < xs.length → w.cell? ⟨b, off + t, none⟩ = some (.int .u8 (gb ys t))) := by
   rw [hl]; exact hb5
  have HA5 : Hid (0 < xs.length → ∃ b off, ao = some ⟨b, off, none⟩ ∧ ∀ t, t < xs.length → w.cell? ⟨b, off + t, none⟩ = some (.int .u8 (gb xs t))) := ha5
  clear hb5 ha5
  rw [← hl] at hb1 ⊢
  clear hl
  have hm : xs.length ≤ 9223372036854775807 := by omega
  go_enter Try.func19, Try.ntmps19
  go_wp2
  go_loopw [5] (fun i wr => ∃ k n : Nat, k ≤ xs.length ∧ i = .int .i64 k ∧ wr = w.drewN n ∧ Hid (∀ t, t < k → gb xs t = gb ys t)) (fun i _ => xs.length - (intOf i).toNat)
  case atStart => exact ⟨0, 0, Nat.zero_le _, rfl, rfl, fun t ht => by omega⟩
  case round =>
   obtain ⟨k, n, hk, rfl, rfl, heq⟩ := hrel
   by_cases hlt : k < xs.length
   ·obtain ⟨b, off, rfl, hca⟩ := HA5.out (by omega)
    obtain ⟨b', off', rfl, hcb⟩ := HB5.out (by omega)
    have c1 : w.cell? ⟨b, off + k, none⟩ = some (.int .u8 (gb xs k)) := hca k hlt
    have c2 : w.cell? ⟨b', off' + k, none⟩ = some (.int .u8 (gb ys k)) := hcb k hlt
    have lk : (k : Int) < (xs.length : Int) := by omega
    clear hca hcb
    go_wp2
    go_quiet (fail)
    go_wp2
    ·have hne : (gb xs k != gb ys k) = true := by assumption
     go_ret
     refine ⟨?_, n + nq, World.drewN_drewN ..⟩
     have : decide (xs = ys) = false := not_same (by simpa using hne)
     rw [this]; rfl
    ·have hne : (gb xs k != gb ys k) = false := by assumption
     go_roundw
     case rel => exact ⟨k + 1, n + nq, by omega, by go_num, rfl, fun t ht => if h : t < k then heq.out t h else by
      have : t = k := by omega
      subst this; simpa using hne⟩
     case measure => simp [intOf]; omega
   ·go_wp2
    go_ret
    refine ⟨?_, n, rfl⟩
    have : decide (xs = ys) = true := decide_eq_true (ext_gb HL.out fun t ht => heq.out t (by omega))
    rw [this]; rfl
 ·have : decide (xs = ys) = false := by simp only [decide_eq_false_iff_not]; intro e; exact hl (by rw [e])
  rw [this]
  go_enter Try.func19, Try.ntmps19
  go_wp2
  go_ret
  exact ⟨rfl, 0, rfl⟩
end Go.Proofs.Ytoohbigedblklaa
namespace Go.Proofs.Ytoohbigedblklaa.na
open Go.RowKit Go.Proofs.Ytoohbigedblklaa.fa
set_option maxRecDepth 20000
theorem same_ok (w : World) (va vb : Value) (xs : List Int) (ha : Byt w va xs) (hb : Byt w vb xs) : Calls Try.prog 19 #[va, vb] w fun e w' => e = .returned (.bool true) ∧ Below w.heap.size w w' :=
 (same_any w va vb xs xs ha hb).mono fun _ _ ⟨he, n, hw⟩ => ⟨by rw [he, decide_eq_true rfl], by rw [hw]; exact below_drewN (Below.refl _ _) n⟩
theorem bks_form {B : Nat} {w : World} {bv : Value} {N P S : Nat} (h : ∃ gv uv : Nat → Value, OwR B w bv 50 5 (bks N gv uv (fun _ => (-1 : Int)) (fun _ => false) (fun _ => (0 : Int))) ∧ ∀ b, b < N → BlkO B w (gv b) (uv b) P (fun _ => List.replicate S 255) (fun _ => 0)) : ∃ bq bc, bv = .slice bq N bc := by
 obtain ⟨gv, uv, h, -⟩ := h
 exact rws_form h.rws (bks_len N _ _ _ _ _)
theorem sim_image {M E : Nat → Bool} {w : World} {c r d : Nat} {q : Nat → Nat} {pv : Value} {g : List Int} {N P S : Nat} {pl : Pln} {s : St} {l : List Opn} {v : Value} (h : Sim M E w c r d q pv g N P S pl s l v) : Calls Try.prog 20 #[.pointer (some ⟨c, 0, none⟩)] w fun e w' => ∃ v, e = .returned v ∧ Bow w.heap.size w' v (img N P s) ∧ Below w.heap.size w w' := by
 obtain ⟨tv, h1, -⟩ := h
 exact image_any h1
theorem sim_ops {M E : Nat → Bool} {w : World} {c r d : Nat} {q : Nat → Nat} {pv : Value} {g : List Int} {N P S : Nat} {pl : Pln} {s : St} {l : List Opn} {v : Value} (h : Sim M E w c r d q pv g N P S pl s l v) (hI : Inv N P S s l) : Calls Try.prog 16 #[.pointer (some ⟨c, 0, none⟩)] w fun e w' => e = .returned (.int .i64 (ops s : Int)) ∧ w' = w := by
 obtain ⟨tv, h1, -⟩ := h
 obtain ⟨tq, tc, rfl⟩ := h1.tvf
 have := ops_any c tq (xt (raw N P s l)).length tc w h1.cells.2.2.2.2
 rw [raw_t, hI.2.2.1] at this
 exact this
theorem und_steps : Try.prog.underlying 25 = some (.slice (Try.prog.elem 25)) := by kernel_rfl
theorem elem_steps : Try.prog.elem 25 = 45 := by kernel_rfl
theorem run_size_step (w : World) : (sizeOf 45).run Try.prog w = .ok 5 w := by
 have h := rowy_step.2
 cases q : Try.prog.info? 45 with
 | none => simp [q] at h
 | some i =>
  simp [q] at h
  simp [sizeOf, typeInfo, q, h]
theorem exec_idxS {ev : Operand → Value} {o : Oper} (x y : Operand) (hop : o.op = Op.indexAddr 25 x y) (b off n cap i : Nat) (hx : ev x = .slice (some ⟨b, off, none⟩) n cap) (hy : ev y = .int .i64 (i : Int)) (hi : i < n) (w : World) : (execOp ev o).run Try.prog w = .ok (.value (.pointer (some ⟨b, off + i * 5, none⟩))) w := by
 have hr : (Instr.indexAt 25 (.slice (some ⟨b, off, none⟩) n cap) (.int .i64 (i : Int))).run Try.prog w = .ok (.pointer (some ⟨b, off + i * 5, none⟩)) w := by
  rw [run_indexAt_slice _ _ _ _ _ _ _ und_steps, if_pos (by omega), elem_steps, run_size_step]
  simp [Result.andThen, Addr.add]
 unfold execOp
 simp only [hop, hx, hy, Sem.run_bind, Result.andThen_ok, hr]
 rfl
def Lpc (w : World) (B gW : Nat) (CS : List Value) (c r d : Nat) (q : Nat → Nat) (pv : Value) (N P S : Nat) (g2 g3 g4 g5 : Int) (pl : Pln) (k : Nat) (was : Value) (wr : World) : Prop :=
 ∃ M s l bq bc po pn pc, Sim M (one gW) wr c r d q pv [(N : Int), P, g2, g3, g4, g5] N P S pl s l (.agg (chr [(N : Int), P, g2, g3, g4, g5] (.slice bq N bc) (.slice po pn pc) (off s) (ops s : Int)).toArray) ∧ Vr wr gW (chr [(N : Int), P, g2, g3, g4, g5] (.slice bq N bc) (.slice po pn pc) (off s) (ops s : Int)) ∧ NoB wr gW ∧ Vr wr w.heap.size CS ∧ Inv N P S s l ∧ ops s ≤ k ∧ (∀ j, M j = true → B ≤ j) ∧ M gW = false ∧ Byt (hid (uni M (one gW)) wr) was (img N P s) ∧ Below w.heap.size w wr
theorem stps_at {w : World} {so : Option Addr} {sc : Nat} {ts : List Stp} (h : Stps w (.slice so ts.length sc) ts) (k : Nat) (hk : k < ts.length) : ∃ sb sf, so = some ⟨sb, sf, none⟩ ∧ (0 ≤ (ts.getD k (0, 0, 0, 0, false)).2.2.2.1 ∧ (ts.getD k (0, 0, 0, 0, false)).2.2.2.1 ≤ 255) ∧ ∀ w', Below w.heap.size w w' → w'.rangeAt sb (sf + k * 5) (tc5 (ts.getD k (0, 0, 0, 0, false))) := by
 obtain ⟨⟨ao, cap, e, -, -, -, h5, h6⟩, h7⟩ := h
 rw [List.length_map] at h5 h6
 injection e with e1 e2 e3
 subst e1
 obtain ⟨b, off, rfl, hc⟩ := h6 (by omega)
 have he : el (ts.map tc5) k = tc5 (ts.getD k (0, 0, 0, 0, false)) := by simp [el, List.getD, hk]
 have hr := hc k hk
 rw [he] at hr
 have hlt : b < w.heap.size := range_lt hr (by simp [tc5])
 refine ⟨b, off, rfl, h7 _ ?_, fun w' hb => range_heap hr (hb.block b hlt)⟩
 rw [List.getD_eq_getElem?_getD, List.getElem?_eq_getElem hk]
 exact List.getElem_mem hk
theorem cl_same {xs : List Int} (h : AllB xs) : Cl xs xs := ⟨rfl, fun k _ => by
 rw [Nat.and_self]
 have := h k
 omega⟩
theorem nxt_cl {N P S : Nat} {s : St} {l : List Opn} (h : Inv N P S s l) (pl : Pln) (k b p x : Int) (on : Bool) (h2 : k ≠ 2) (h4 : k ≠ 4) : Cl (img N P s) (img N P (nxt N P S pl s l k b p x on).1) := by
 have hr : Cl (img N P s) (img N P s) := cl_same (img_all h.1)
 unfold nxt
 split
 ·split
  ·exact hr
  ·exact pdo_cl h.1 pl _ _ _
 ·split
  ·split
   ·exact hr
   ·exact sdo_cl h.1 pl _
  ·split <;> exact hr
theorem nxt_ops {N P S : Nat} {s : St} {l : List Opn} (pl : Pln) (k b p x : Int) (on : Bool) (h4 : k ≠ 4) (ho : ops (nxt N P S pl s l k b p x on).1 = ops s) : img N P (nxt N P S pl s l k b p x on).1 = img N P s := by
 have hp : ∀ s' : St, ops s' = ops s + 1 → ops s' ≠ ops s := fun _ e => by omega
 unfold nxt at ho ⊢
 split
 ·rename_i e
  rw [if_pos e] at ho
  split
  ·rfl
  ·rename_i q
   rw [q] at ho
   exact absurd ho (hp _ rfl)
 ·rename_i e
  rw [if_neg e] at ho
  split
  ·rename_i e
   rw [if_pos e] at ho
   split
   ·rfl
   ·rename_i q
    rw [q] at ho
    exact absurd ho (hp _ rfl)
  ·rename_i e
   rw [if_neg e] at ho
   split
   ·rename_i e
    rw [if_pos e] at ho
    split
    ·rfl
    ·rename_i q
     rw [q] at ho
     exact absurd ho (hp _ rfl)
   ·split <;> rfl
theorem nxt_le {N P S : Nat} (pl : Pln) (s : St) (l : List Opn) (k b p x : Int) (on : Bool) : ops (nxt N P S pl s l k b p x on).1 ≤ ops s + 1 := by
 have hp : ∀ s' : St, ops s' = ops s + 1 → ops s' ≤ ops s + 1 := fun _ e => by omega
 have hz : ∀ s' : St, ops s' = ops s → ops s' ≤ ops s + 1 := fun _ e => by omega
 unfold nxt
 repeat' split
 all_goals first | exact hz _ rfl | exact hp _ rfl
theorem one_steps : One 25 := ⟨⟨_, Try.underlying25, rfl⟩, by kernel_rfl⟩
theorem hgm {M M' : Nat → Bool} {w : World} {B gW : Nat} (h : (∀ j, M j = true → B ≤ j) ∧ M gW = false) (hA : ∀ k, k < w.heap.size → M' k = M k) (hB : B ≤ gW) (hW : gW < w.heap.size) : (∀ j, M' j = true → B ≤ j) ∧ M' gW = false := by
 refine ⟨fun j hj => ?_, by rw [hA gW hW]; exact h.2⟩
 by_cases q : j < w.heap.size
 ·rw [hA j q] at hj; exact h.1 j hj
 ·omega
theorem sim_form {M E : Nat → Bool} {w : World} {c r d : Nat} {q : Nat → Nat} {pv : Value} {g : List Int} {N P S : Nat} {pl : Pln} {s : St} {l : List Opn} {v : Value} (h : Sim M E w c r d q pv g N P S pl s l v) : ∃ bq bc po pn pc, v = .agg (chr g (.slice bq N bc) (.slice po pn pc) (off s) (ops s : Int)).toArray := by
 obtain ⟨tv, -, h2, -⟩ := h
 obtain ⟨bq, bc, po, pn, pc, gv, uv, e, -⟩ := ref_open h2
 exact ⟨bq, bc, po, pn, pc, e⟩
theorem step_nx {M E : Nat → Bool} {w : World} {c r d : Nat} {q : Nat → Nat} {pv : Value} {g : List Int} {N P S : Nat} {pl : Pln} {s s2 : St} {l l2 : List Opn} {v : Value} (hs : Shp g N P S) (hI : Inv N P S s l) (hn : ops s ≤ 1000000) (hE : Mlt E w) (h : Sim M E w c r d q pv g N P S pl s l v) (k b p x : Int) (hx : 0 ≤ x ∧ x ≤ 255) (on : Bool) (hnx : nxt N P S pl s l k b p x on = (s2, l2)) :
  Calls Try.prog 15 #[.pointer (some ⟨c, 0, none⟩), v, .agg ([.int .i64 k, .int .i64 b, .int .i64 p, .int .u8 x, .bool on] : List Value).toArray] w fun e w' => ∃ v9, e = .returned v9 ∧ ∃ M' v', v9 = .tuple #[v', .bool true] ∧ Sim M' E w' c r d q pv g N P S pl s2 l2 v' ∧ (∀ k, k < w.heap.size → M' k = M k) ∧ Frm M w w' := by
 refine (step_any hs hI hn hE h k b p x hx on).mono ?_
 rintro e w' ⟨M', v', rfl, z⟩
 rw [hnx] at z
 exact ⟨_, rfl, M', v', rfl, z⟩
end Go.Proofs.Ytoohbigedblklaa.na
namespace Go.Proofs.Ytoohbigedblklaa.na
open Go.RowKit Go.Proofs.Ytoohbigedblklaa.fa
set_option maxRecDepth 20000
theorem und_blks : Try.prog.underlying 36 = some (.slice (Try.prog.elem 36)) := by kernel_rfl
theorem elem_blks : Try.prog.elem 36 = 50 := by kernel_rfl
theorem und_pages : Try.prog.underlying 47 = some (.slice (Try.prog.elem 47)) := by kernel_rfl
theorem elem_pages : Try.prog.elem 47 = 53 := by kernel_rfl
theorem run_size_of {t : TypeId} {n : Nat} (h : (Try.prog.info? t).map (·.size) = some n) (w : World) : (sizeOf t).run Try.prog w = .ok n w := by
 cases q : Try.prog.info? t with
 | none => simp [q] at h
 | some i =>
  simp [q] at h
  simp [sizeOf, typeInfo, q, h]
theorem exec_idxB {ev : Operand → Value} {o : Oper} (x y : Operand) (hop : o.op = Op.indexAddr 36 x y) (b off n cap i : Nat) (hx : ev x = .slice (some ⟨b, off, none⟩) n cap) (hy : ev y = .int .i64 (i : Int)) (hi : i < n) (w : World) : (execOp ev o).run Try.prog w = .ok (.value (.pointer (some ⟨b, off + i * 5, none⟩))) w := by
 have hr : (Instr.indexAt 36 (.slice (some ⟨b, off, none⟩) n cap) (.int .i64 (i : Int))).run Try.prog w = .ok (.pointer (some ⟨b, off + i * 5, none⟩)) w := by
  rw [run_indexAt_slice _ _ _ _ _ _ _ und_blks, if_pos (by omega), elem_blks, run_size_of rowy_blk.2]
  simp [Result.andThen, Addr.add]
 unfold execOp
 simp only [hop, hx, hy, Sem.run_bind, Result.andThen_ok, hr]
 rfl
theorem exec_idxP {ev : Operand → Value} {o : Oper} (x y : Operand) (hop : o.op = Op.indexAddr 47 x y) (b off n cap i : Nat) (hx : ev x = .slice (some ⟨b, off, none⟩) n cap) (hy : ev y = .int .i64 (i : Int)) (hi : i < n) (w : World) : (execOp ev o).run Try.prog w = .ok (.value (.pointer (some ⟨b, off + i, none⟩))) w := by
 have hr : (Instr.indexAt 47 (.slice (some ⟨b, off, none⟩) n cap) (.int .i64 (i : Int))).run Try.prog w = .ok (.pointer (some ⟨b, off + i, none⟩)) w := by
  rw [run_indexAt_slice _ _ _ _ _ _ _ und_pages, if_pos (by omega), elem_pages, run_size_of (n := 1) (by kernel_rfl)]
  simp [Result.andThen, Addr.add]
 unfold execOp
 simp only [hop, hx, hy, Sem.run_bind, Result.andThen_ok, hr]
 rfl
theorem chr_inj {g : List Int} {a b a' b' : Value} {o o' : Bool} {n n' : Int} (h : Value.agg (chr g a b o n).toArray = .agg (chr g a' b' o' n').toArray) : a = a' := by
 injection h with h
 have h := List.toArray_inj h
 simp only [chr] at h
 have := List.append_cancel_left h
 simp at this
 exact this.1
theorem ref_blk {M E : Nat → Bool} {w : World} {c r d : Nat} {q : Nat → Nat} {pv : Value} {g : List Int} {N P S : Nat} {pl : Pln} {s : St} {l : List Opn} {bq : Option Addr} {bc : Nat} {pw : Value} (h : Sim M E w c r d q pv g N P S pl s l (.agg (chr g (.slice bq N bc) pw (off s) (ops s : Int)).toArray)) (b : Nat) (hb : b < N) :
  ∃ bb bo gv uv, bq = some ⟨bb, bo, none⟩ ∧ ∀ w', Below w.heap.size w w' → w'.rangeAt bb (bo + b * 5) (bkc gv uv (lsp s b) (scr s b) (ers s b)) := by
 obtain ⟨tv, -, h2, -⟩ := h
 obtain ⟨bq', bc', po, pn, pc, gv, uv, e, r1, -⟩ := ref_open h2
 have e := chr_inj e
 injection e with e1 e2 e3
 subst e1
 obtain ⟨ao, cap, e, -, -, -, h5, h6⟩ := hid_rws r1
 rw [bks_len] at h5 h6 e
 injection e with e1 e2 e3
 subst e1
 obtain ⟨bb, bo, rfl, hc⟩ := h6 (by omega)
 have hr := hc b hb
 rw [bks_el _ _ _ _ _ _ _ hb] at hr
 refine ⟨bb, bo, gv b, uv b, rfl, fun w' hw => range_heap hr (hw.block bb (range_lt hr (by simp [bkc])))⟩
theorem ref_page {M E : Nat → Bool} {w : World} {c r d : Nat} {q : Nat → Nat} {pv : Value} {g : List Int} {N P S : Nat} {pl : Pln} {s : St} {l : List Opn} {bq : Option Addr} {bc : Nat} {pw : Value} (h : Sim M E w c r d q pv g N P S pl s l (.agg (chr g (.slice bq N bc) pw (off s) (ops s : Int)).toArray)) (b p : Nat) (hb : b < N) (hp : p < P) :
  ∃ bb bo gb go gc uv xv, bq = some ⟨bb, bo, none⟩ ∧ ∀ w', Below w.heap.size w w' → w'.rangeAt bb (bo + b * 5) (bkc (.slice (some ⟨gb, go, none⟩) P gc) uv (lsp s b) (scr s b) (ers s b)) ∧ w'.cell? ⟨gb, go + p, none⟩ = some xv ∧ Byt w' xv (pgs s b p) := by
 obtain ⟨tv, -, h2, -⟩ := h
 obtain ⟨bq', bc', po, pn, pc, gv, uv, e, r1, r2, -⟩ := ref_open h2
 have e := chr_inj e
 injection e with e1 e2 e3
 subst e1
 obtain ⟨ao, cap, e, -, -, -, h5, h6⟩ := hid_rws r1
 rw [bks_len] at h5 h6 e
 injection e with e1 e2 e3
 subst e1
 obtain ⟨bb, bo, rfl, hc⟩ := h6 (by omega)
 have hr := hc b hb
 rw [bks_el _ _ _ _ _ _ _ hb] at hr
 obtain ⟨⟨xv, x1, x2⟩, -⟩ := hid_blk (r2 b hb)
 obtain ⟨ao, cap, e, -, -, -, h5, h6⟩ := x1
 rw [pgc_len] at h5 h6 e
 obtain ⟨gb, go, rfl, hg⟩ := h6 (by omega)
 have hx := hg p hp
 rw [pgc_el _ _ _ hp] at hx
 rw [e] at hr
 refine ⟨bb, bo, gb, go, cap, uv b, xv p, rfl, fun w' hw => ⟨range_heap hr (hw.block bb (range_lt hr (by simp [bkc]))), ?_, (x2 p hp).below hw⟩⟩
 have := range_heap hx (hw.block gb (range_lt hx (by simp)))
 simpa using this 0 _ rfl
theorem sim_read_off {M E : Nat → Bool} {w : World} {c r d : Nat} {q : Nat → Nat} {pv : Value} {g : List Int} {N P S : Nat} {pl : Pln} {s : St} {l : List Opn} {v : Value} (h : Sim M E w c r d q pv g N P S pl s l v) (p : List Int) (ho : off s = true) : Calls Try.prog 22 #[.pointer (some ⟨c, 0, none⟩), .agg (ints .i64 p)] w fun e w' => e = .returned (.tuple #[.slice none 0 0, .int .i64 4]) ∧ Below w.heap.size w w' := by
 obtain ⟨tv, h1, -⟩ := h
 exact read_off h1 p (by rw [raw_o, ho]; rfl)
theorem sim_read_no {M E : Nat → Bool} {w : World} {c r d : Nat} {q : Nat → Nat} {pv : Value} {g : List Int} {N P S : Nat} {pl : Pln} {s : St} {l : List Opn} {v : Value} (h : Sim M E w c r d q pv g N P S pl s l v) (b p : Int) (ho : off s = false) (hn : ¬ (0 ≤ b ∧ b < N ∧ 0 ≤ p ∧ p < P)) : Calls Try.prog 22 #[.pointer (some ⟨c, 0, none⟩), .agg (ints .i64 [b, p])] w fun e w' => ∃ ao cap, e = .returned (.tuple #[.slice ao 0 cap, .int .i64 2]) ∧ Below w.heap.size w w' := by
 obtain ⟨tv, h1, -⟩ := h
 refine (read_no h1 [b, p] rfl (by rw [raw_o, ho]; rfl) hn).mono ?_
 rintro e w' ⟨v, rfl, h3, h4⟩
 obtain ⟨ao, cap, rfl⟩ := byt_form h3
 exact ⟨ao, cap, rfl, h4⟩
theorem sim_read {M E : Nat → Bool} {w : World} {c r d : Nat} {q : Nat → Nat} {pv : Value} {g : List Int} {N P S : Nat} {pl : Pln} {s : St} {l : List Opn} {v : Value} (h : Sim M E w c r d q pv g N P S pl s l v) (hI : Inv N P S s l) (hS : 0 < S) (b p : Nat) (ho : off s = false) (hb : b < N) (hp : p < P) : Calls Try.prog 22 #[.pointer (some ⟨c, 0, none⟩), .agg (ints .i64 [(b : Int), (p : Int)])] w fun e w' => ∃ vb vo vc, e = .returned (.tuple #[.slice (some ⟨vb, vo, none⟩) S vc, .int .i64 0]) ∧ w.heap.size ≤ vb ∧ (∀ j, j < S → w'.frozen? ⟨vb, vo + j, none⟩ = false) ∧ Byt w' (.slice (some ⟨vb, vo, none⟩) S vc) (pgs s b p) ∧ Below w.heap.size w w' := by
 obtain ⟨tv, h1, -⟩ := h
 refine (read_yes h1 [(b : Int), (p : Int)] rfl (by rw [raw_o, ho]; rfl) b p rfl rfl hb hp).mono ?_
 rintro e w' ⟨v, rfl, ⟨h3, h4⟩, h5⟩
 rw [raw_i, cut_page N P S s (fun k hk j hj => ((hI.1 k hk).1 j hj).1) b p hb hp] at h3 h4
 have hl : (pgs s b p).length = S := ((hI.1 b hb).1 p hp).1
 rw [hl] at h4
 obtain ⟨vb, vo, vc, rfl, h6, h7⟩ := h4 hS
 exact ⟨vb, vo, vc, rfl, h6, h7, h3, h5⟩
end Go.Proofs.Ytoohbigedblklaa.na
namespace Go.Proofs.Ytoohbigedblklaa.na
open Go.RowKit Go.Proofs.Ytoohbigedblklaa.fa
set_option maxRecDepth 20000
def Lpr (w : World) (B gW : Nat) (CS : List Value) (j : Nat) (PL : List Value) (c r d : Nat) (q : Nat → Nat) (pv : Value) (N P S : Nat) (g2 g3 g4 g5 : Int) (pl : Pln) (k : Nat) (wr : World) : Prop :=
 ∃ M s l bq bc po pn pc, Sim M (one gW) wr c r d q pv [(N : Int), P, g2, g3, g4, g5] N P S pl s l (.agg (chr [(N : Int), P, g2, g3, g4, g5] (.slice bq N bc) (.slice po pn pc) (off s) (ops s : Int)).toArray) ∧ Vr wr gW (chr [(N : Int), P, g2, g3, g4, g5] (.slice bq N bc) (.slice po pn pc) (off s) (ops s : Int)) ∧ NoB wr gW ∧ Vr wr w.heap.size CS ∧ Vr wr j PL ∧ Inv N P S s l ∧ ops s ≤ k ∧ (∀ j, M j = true → B ≤ j) ∧ M gW = false ∧ Below w.heap.size w wr
theorem byt_first {w : World} {vb vo vc S : Nat} {xs : List Int} (h : Byt w (.slice (some ⟨vb, vo, none⟩) S vc) xs) (hl : xs.length = S) (hS : 0 < S) : ∃ x : Int, w.cell? ⟨vb, vo, none⟩ = some (.int .u8 x) ∧ 0 ≤ x ∧ x ≤ 255 := by
 obtain ⟨ao, cap, e, -, -, ha, -, hc⟩ := h
 injection e with e1 e2 e3
 obtain ⟨b, off, rfl, hx⟩ := hc (by omega)
 injection e1 with e1
 injection e1 with f1 f2
 subst f1
 subst f2
 exact ⟨gb xs 0, hx 0 (by omega), ha 0⟩
theorem frz_below {w w' : World} {b o : Nat} (h : w.frozen? ⟨b, o, none⟩ = false) (hb : Below w.heap.size w w') (hl : b < w.heap.size) : w'.frozen? ⟨b, o, none⟩ = false := by
 rw [hb.frozen hl]
 exact h
end Go.Proofs.Ytoohbigedblklaa.na
namespace Go.Proofs.Ytoohbigedblklaa.na
open Go.RowKit Go.Proofs.Ytoohbigedblklaa.fa
set_option maxRecDepth 20000
def two (a b : Nat) : Nat → Bool := fun k => decide (k = a) || decide (k = b)
theorem two_lt {a b : Nat} {w : World} (ha : a < w.heap.size) (hb : b < w.heap.size) : Mlt (two a b) w := fun k hk => by
 simp [two] at hk
 omega
section
variable {M E : Nat → Bool} {w w' : World} {c r d : Nat} {q : Nat → Nat} {pv : Value} {g : List Int} {N P S : Nat} {pl : Pln} {s : St} {l : List Opn} {v : Value}
theorem Sim.more {gW gY : Nat} (h : Sim M (one gW) w c r d q pv g N P S pl s l v) (hb : Below w.heap.size w w') (hY : w.heap.size ≤ gY) : Sim M (two gW gY) w' c r d q pv g N P S pl s l v := by
 obtain ⟨tv, h1, h2, h3, h4⟩ := h
 have F : Frm (uni M (one gW)) w w' := Frm.of_below hb
 have e : ∀ k, k < w.heap.size → uni M (two gW gY) k = uni M (one gW) k := fun k hk => by
  have : k ≠ gY := by omega
  simp [uni, two, one, this]
 exact ⟨tv, h1.below hb, h2.below (F.hid e), fun k hk => Nat.lt_of_lt_of_le (h3 k hk) hb.size, h4.below (F.hid e)⟩
theorem Sim.putE {gY : Nat} (h : Sim M E w c r d q pv g N P S pl s l v) (hT : NoB w gY) (hM : M gY = false) (hE : E gY = true) (hg : w.grownBy w' (some gY)) : Sim M E w' c r d q pv g N P S pl s l v := by
 obtain ⟨tv, h1, h2, h3, h4⟩ := h
 have F : Frm (uni M E) w w' := Frm.grown hg (fun k e => by injection e with e; subst e; simp [uni, hE])
 exact ⟨tv, h1.put hg hM hT (pla_less (h4.below F.hid0) fun k hk => by simp [uni, hk]), h2.below F.hid0, fun k hk => Nat.lt_of_lt_of_le (h3 k hk) hg.size, h4.below F.hid0⟩
theorem Sim.less {gW gY : Nat} (h : Sim M (two gW gY) w c r d q pv g N P S pl s l v) : Sim M (one gW) w c r d q pv g N P S pl s l v := by
 obtain ⟨tv, h1, h2, h3, h4⟩ := h
 have e : ∀ k, uni M (one gW) k = true → uni M (two gW gY) k = true := fun k hk => by
  simp [uni, one, two] at hk ⊢
  rcases hk with z | z
  ·exact Or.inl z
  ·exact Or.inr (Or.inl z)
 exact ⟨tv, h1, ref_less h2 e, h3, pla_less h4 e⟩
theorem Sim.mlt (h : Sim M E w c r d q pv g N P S pl s l v) : Mlt M w := by obtain ⟨_, _, _, z, _⟩ := h; exact z
theorem sim_on (h : Sim M E w c r d q pv g N P S pl s l v) : Calls Try.prog 17 #[.pointer (some ⟨c, 0, none⟩)] w fun e w' => e = .returned (.bool (!off s)) ∧ w' = w := by
 obtain ⟨tv, h1, -⟩ := h
 exact on_any c _ w h1.cells.2.1
theorem sim_erases (h : Sim M E w c r d q pv g N P S pl s l v) (b : Int) (x : Int) (hx : 0 ≤ b ∧ b < N → x = ers s b.toNat) (hy : ¬ (0 ≤ b ∧ b < N) → x = 0) : Calls Try.prog 18 #[.pointer (some ⟨c, 0, none⟩), .int .i64 b] w fun e w' => e = .returned (.int .i64 x) ∧ w' = w := by
 obtain ⟨tv, h1, -⟩ := h
 exact erases_any h1 b x hx hy
theorem sim_rimage {bq : Option Addr} {bc : Nat} {pw : Value} (hI : Inv N P S s l) (hs : Shp g N P S) (h : Sim M E w c r d q pv g N P S pl s l (.agg (chr g (.slice bq N bc) pw (off s) (ops s : Int)).toArray)) : Calls Try.prog 21 #[.agg (chr g (.slice bq N bc) pw (off s) (ops s : Int)).toArray] w fun e w' => ∃ v, e = .returned v ∧ Byt w' v (img N P s) ∧ Below w.heap.size w w' := by
 obtain ⟨tv, -, h2, -⟩ := h
 obtain ⟨bq', bc', po, pn, pc, gv, uv, e, r1, r2, -⟩ := ref_open h2
 have e := chr_inj e
 injection e with e1 e2 e3
 subst e1
 subst e3
 have sz := shp_num hs
 refine (rimage_any g hs.1 _ pw (off s) _ N P S gv uv _ _ _ (pgs s) (usd s) (by omega) (by omega) (by omega) w (hid_rws r1) (fun b hb => hid_blk (r2 b hb)) (fun b hb p hp => ((hI.1 b hb).1 p hp).1)).mono ?_
 rintro _ _ ⟨v, rfl, h1, h2⟩
 exact ⟨v, rfl, h1.byt (img_all hI.1), h2⟩
end
theorem exec_neqG {ev : Operand → Value} {o : Oper} (x y : Operand) (hop : o.op = Op.binOp .neq 23 x y 23) (g0 g1 g2 g3 g4 g5 : Int) (hx : ev x = .agg #[.int .i64 g0, .int .i64 g1, .int .i64 g2, .int .i64 g3, .int .i64 g4, .int .i64 g5]) (hy : ev y = .agg #[.int .i64 g0, .int .i64 g1, .int .i64 g2, .int .i64 g3, .int .i64 g4, .int .i64 g5]) (w : World) : (execOp ev o).run Try.prog w = .ok (.value (.bool false)) w := by
 unfold execOp
 simp only [hop, hx, hy]
 go_simp
theorem exec_neqI {ev : Operand → Value} {o : Oper} (x y : Operand) (hop : o.op = Op.binOp .neq 3 x y 3) (a : Int) (hx : ev x = .int .i64 a) (hy : ev y = .int .i64 a) (w : World) : (execOp ev o).run Try.prog w = .ok (.value (.bool false)) w := by
 unfold execOp
 simp only [hop, hx, hy]
 go_simp
theorem exec_neqB {ev : Operand → Value} {o : Oper} (x y : Operand) (hop : o.op = Op.binOp .neq 4 x y 4) (a : Bool) (hx : ev x = .bool a) (hy : ev y = .bool a) (w : World) : (execOp ev o).run Try.prog w = .ok (.value (.bool false)) w := by
 unfold execOp
 simp only [hop, hx, hy]
 go_simp
theorem exec_notB {ev : Operand → Value} {o : Oper} (x : Operand) (hop : o.op = Op.unOp .not 4 x) (a : Bool) (hx : ev x = .bool a) (w : World) : (execOp ev o).run Try.prog w = .ok (.value (.bool (!a))) w := by
 unfold execOp
 simp only [hop, hx]
 go_simp
theorem range6 {w : World} {b : Nat} {a0 a1 a2 a3 a4 a5 a6 a7 : Value} (h : Vr w b [a0, a1, a2, a3, a4, a5, a6, a7]) : w.rangeAt b 0 [a0, a1, a2, a3, a4, a5] := fun j v hv => by
 have hj : j < 6 := (List.getElem?_eq_some_iff.1 hv).1
 refine h.1 j v ?_
 match j, hj with
 | 0, _ => exact hv
 | 1, _ => exact hv
 | 2, _ => exact hv
 | 3, _ => exact hv
 | 4, _ => exact hv
 | 5, _ => exact hv
theorem step_newX {ops : Array Oper} {o : Oper} {a : Act} {Q : Exit → Act → World → Prop} {K : Act → World → Prop} {E : Prop} (w : World) (hg : o.guard = none) (d : Option Tmp) (hd : o.dst = d) (t : TypeId) (hop : o.op = Op.alloc t) (cs : List Value) (hz : (Try.prog.info? t).map (fun i => (i.zero, i.size)) = some (some (.agg cs.toArray), cs.length)) (hc : ∀ v ∈ cs, ∀ y, v ≠ .int .u8 y)
  (hK : ∀ w', Vr w' w.heap.size cs → NoB w' w.heap.size → Below w.heap.size w w' → K (a.put d (.pointer (some ⟨w.heap.size, 0, none⟩))) w') : if Region.wanted o (yielded ops a.tmps) = true then Oper.wp Try.prog o a w K Q else E := by
 have hw : Region.wanted o (yielded ops a.tmps) = true := by simp [Region.wanted, hg]
 rw [if_pos hw]
 subst hd
 have hz' := (zero_of_info hz).1
 unfold Oper.wp
 simp [execOp, hop, Instr.alloc, hz', newVar, newRow, Value.cells, Result.andThen]
 exact hK _ (Vr.new w t cs) (obj_nobyte (heap_alloc_last w _) hc) ((Below.refl _ _).alloc (Nat.le_refl _) _)
end Go.Proofs.Ytoohbigedblklaa.na
namespace Go.Proofs.Ytoohbigedblklaa.na
open Go.RowKit Go.Proofs.Ytoohbigedblklaa.fa
set_option maxRecDepth 20000
end Go.Proofs.Ytoohbigedblklaa.na
