/- What the library's DeleteFunc does to a row of places. No claim of its own. -/
import Derived.Test.YtedmmpognhpbdaaJIdx
namespace Go.Proofs.Ytedmmpognhpbdaa.pm
open Go.RowKit Go.Proofs.Ytedmmpognhpbdaa.he
set_option maxRecDepth 20000

section
variable {ops : Array Oper} {rest : List Oper} {o : Oper} {a : Act} {Q : Exit → Act → World → Prop} {w : World} {d : Option Tmp} {ty : TypeId} {pos : String} {af : Array Edge} {gd : Option (Nat × Bool)}
theorem at_store {t : TypeId} {x y : Operand} (h : wpList Try.prog ops Q (⟨d, Op.store t x y, ty, pos, af, gd⟩ :: rest) a w) : wpList Try.prog ops Q (⟨d, Op.store t x y, ty, pos, af, gd⟩ :: rest) a w := h
theorem at_alloc {t : TypeId} (h : wpList Try.prog ops Q (⟨d, Op.alloc t, ty, pos, af, gd⟩ :: rest) a w) : wpList Try.prog ops Q (⟨d, Op.alloc t, ty, pos, af, gd⟩ :: rest) a w := h
theorem size_pl (w : World) : (sizeOf 31).run Try.prog w = .ok 2 w := Try.sizeOf31 w
/-- 's[l:]' of places -/
theorem from_lawP (w : World) (hg : o.guard = none) (s x : Operand) (hop : o.op = Op.slice 59 s (some x) none none) (ao : Option Addr) (n cap l : Nat) (hs : a.eval s = .slice ao n cap) (hx : a.eval x = .int .i64 (l : Int)) (hl : l ≤ n)
    (hK : ∀ v, Hid (v = sliced ao l n cap 2) → wpList Try.prog ops Q rest (a.put o.dst v) w) : wpList Try.prog ops Q (o :: rest) a w := by
  refine wpList_plain hg fun K hK' => ?_
  have und : Try.prog.underlying 59 = some (.slice (Try.prog.elem 59)) := by kernel_rfl
  have hrun := run_slice_l (P := Try.prog) w 59 ao n cap und .i64 (l : Int) (by omega) (by omega)
  rw [show Try.prog.elem 59 = 31 by kernel_rfl, size_pl] at hrun
  unfold Oper.wp
  simp [execOp, hop, hs, hx, run_sliceAt_slice w 59 _ _ _ _ und, hrun, Result.andThen]
  exact hK' _ _ (hK _ rfl)
/-- 's[:h]' of places -/
theorem to_lawP (w : World) (hg : o.guard = none) (s x : Operand) (hop : o.op = Op.slice 59 s none (some x) none) (g n cap h : Nat) (hs : a.eval s = .slice (some ⟨g, 0, none⟩) n cap) (hx : a.eval x = .int .i64 (h : Int)) (hl : h ≤ cap)
    (hK : wpList Try.prog ops Q rest (a.put o.dst (.slice (some ⟨g, 0, none⟩) h cap)) w) : wpList Try.prog ops Q (o :: rest) a w := by
  refine wpList_plain hg fun K hK' => ?_
  have und : Try.prog.underlying 59 = some (.slice (Try.prog.elem 59)) := by kernel_rfl
  have hrun := run_slice_h (P := Try.prog) w 59 (some ⟨g, 0, none⟩) n cap und .i64 (h : Int) (by omega) (by omega)
  rw [show Try.prog.elem 59 = 31 by kernel_rfl, size_pl] at hrun
  have e : sliced (some ⟨g, 0, none⟩) 0 (Int.toNat (h : Int)) cap 2 = .slice (some ⟨g, 0, none⟩) h cap := by
    unfold sliced
    rw [Int.toNat_natCast, Nat.zero_mul]
    have : (Addr.add ⟨g, 0, none⟩ 0) = ⟨g, 0, none⟩ := rfl
    simp [this]
  rw [Result.andThen_ok, e] at hrun
  unfold Oper.wp
  simp [execOp, hop, hs, hx, run_sliceAt_slice w 59 _ _ _ _ und, hrun, Result.andThen]
  exact hK' _ _ hK
/-- 'clear(s[i:])' of places -/
theorem clear_lawP (w : World) (hg : o.guard = none) (s : Operand) (hop : o.op = .call { callee := .builtin .clear, args := #[s], argTypes := #[59] }) (g n cap i : Nat) (L : List PL) (v : Value) (hs : a.eval s = v) (hv : Hid (v = sliced (some ⟨g, 0, none⟩) i n cap 2)) (hR : Rl w g L) (hn : n = L.length) (hi : i ≤ n) (hc : n ≤ cap)
    (hK : ∀ w', Rl w' g (L.take i) → Ch (fun k => k = g) w w' → wpList Try.prog ops Q rest (a.put o.dst (.tuple #[])) w') : wpList Try.prog ops Q (o :: rest) a w := by
  refine wpList_plain hg fun K hK' => ?_
  rw [hv.out] at hs
  by_cases e : i = n
  · have ev : sliced (some ⟨g, 0, none⟩) i n cap 2 = .slice (if cap = i then some ⟨g, 0, none⟩ else some (Addr.add ⟨g, 0, none⟩ (i * 2))) 0 (cap - i) := by
      unfold sliced
      rw [show n - i = 0 by omega]
      rfl
    have hrun : ∀ ao c, (Builtin.clear_ #[59] o.type #[.slice ao 0 c]).run Try.prog w = .ok (.tuple #[]) w := fun ao c => by
      cases ao <;> simp [Builtin.clear_, run_underlying Try.underlying59]
    unfold Oper.wp execOp
    simp only [hop, resolve, invoke, builtin, Sem.run_bind, Sem.run_pure, Result.andThen_ok, List.map_toArray, List.map_cons, List.map_nil, hs, ev, hrun]
    exact hK' _ _ (hK w (hR.take i) (Ch.refl _ _))
  · obtain ⟨m, hm⟩ : ∃ m, n - i = m + 1 := ⟨n - i - 1, by omega⟩
    have ev : sliced (some ⟨g, 0, none⟩) i n cap 2 = .slice (some ⟨g, i * 2, none⟩) (m + 1) (cap - i) := by
      unfold sliced
      rw [hm, if_neg (by omega)]
      simp [Addr.add]
      omega
    have hA : ∀ j, j < (m + 1) * 2 → (w.cell? ⟨g, i * 2 + j, none⟩).isSome = true ∧ w.frozen? ⟨g, i * 2 + j, none⟩ = false := fun j hj => by
      have h1 : i + j / 2 < L.length := by omega
      have h2 := (hR (i + j / 2) _ (List.getElem?_eq_getElem h1)).2 (j % 2) (by show j % 2 < 2; omega)
      rwa [show (i + j / 2) * 2 + j % 2 = i * 2 + j by omega] at h2
    have hst := run_storeCells_cells (P := Try.prog) g (i * 2) (fl (List.replicate (m + 1) (0, 0))) 0 w (fun j hj => by rw [Nat.add_zero]; exact (hA j (by rw [fl_len, List.length_replicate] at hj; exact hj)).1) (fun j hj => by rw [Nat.add_zero]; exact (hA j (by rw [fl_len, List.length_replicate] at hj; exact hj)).2) (fun v hv => by
      simp only [fl, List.mem_flatMap] at hv
      obtain ⟨x, _, hx⟩ := hv
      exact pc_one x v hx)
    have hz : ∀ w, (zeroValue 31).run Try.prog w = .ok (.agg (pc (0, 0)).toArray) w := fun w => by kernel_rfl
    have hrun : (Builtin.clear_ #[59] o.type #[.slice (some ⟨g, i * 2, none⟩) (m + 1) (cap - i)]).run Try.prog w = .ok (.tuple #[]) (w.setCells g (i * 2) (fl (List.replicate (m + 1) (0, 0)))) := by
      rw [Nat.add_zero] at hst
      simp only [Builtin.clear_]
      simp [run_underlying Try.underlying59, hz, zeros_place, hst]
    unfold Oper.wp execOp
    simp only [hop, resolve, invoke, builtin, Sem.run_bind, Sem.run_pure, Result.andThen_ok, List.map_toArray, List.map_cons, List.map_nil, hs, ev, hrun]
    have hW := wrt_cells w g (i * 2) ((m + 1) * 2) (fl (List.replicate (m + 1) (0, 0))) (by rw [fl_len, List.length_replicate])
    refine hK' _ _ (hK _ (fun k x hx => ?_) (Ch.of_wrt hW rfl))
    rw [List.getElem?_take] at hx
    split at hx
    · have hk := hR k x hx
      have ap : ∀ j, j < 2 → (k * 2 + j < i * 2 ∨ i * 2 + (m + 1) * 2 ≤ k * 2 + j) := fun j hj => by omega
      refine ⟨fun j v hv => ?_, fun j hj => ?_⟩
      · rw [(hW.2 _ (ap j (List.getElem?_eq_some_iff.1 hv).1)).1]; exact hk.1 j v hv
      · rw [(hW.2 _ (ap j hj)).1, (hW.2 _ (ap j hj)).2]; exact hk.2 j hj
    · cases hx
end
theorem Ch.of_new {a b : World} {B : Nat} (h : Below B a b) : Ch (fun k => B ≤ k) a b := ⟨h.os, h.tape, h.output, h.size, fun k _ hn => h.block k (by omega)⟩
theorem drop_at {L R : List PL} {j : Nat} {x : PL} (h : R.drop j = L.drop j) (hx : L[j]? = some x) : R[j]? = some x := by
  have : (R.drop j)[0]? = (L.drop j)[0]? := by rw [h]
  simpa [hx] using this
theorem drop_next {L R : List PL} {j : Nat} (h : R.drop j = L.drop j) : R.drop (j + 1) = L.drop (j + 1) := by
  rw [← List.drop_drop, ← List.drop_drop, h]
theorem drop_set {R : List PL} {i j : Nat} (x : PL) (h : i < j) : (R.set i x).drop j = R.drop j := by
  rw [List.drop_set, if_pos h]
theorem take_set {R : List PL} {i : Nat} (x : PL) (h : i < R.length) : (R.set i x).take (i + 1) = R.take i ++ [x] := by
  rw [List.take_add_one, List.getElem?_set_self (by simpa using h), List.take_set_of_le (Nat.le_refl i)]
  rfl
theorem filt_yes {L : List PL} {q : PL → Bool} {j : Nat} {x : PL} (hx : L[j]? = some x) (hq : q x = false) : (L.take (j + 1)).filter (fun x => !q x) = (L.take j).filter (fun x => !q x) ++ [x] := by
  rw [List.take_add_one, hx, List.filter_append]
  simp [hq]
theorem filt_no {L : List PL} {q : PL → Bool} {j : Nat} {x : PL} (hx : L[j]? = some x) (hq : q x = true) : (L.take (j + 1)).filter (fun x => !q x) = (L.take j).filter (fun x => !q x) := by
  rw [List.take_add_one, hx, List.filter_append]
  simp [hq]
theorem filt_all {L : List PL} {q : PL → Bool} (h : ∀ x ∈ L, q x = false) : L.filter (fun x => !q x) = L := by
  rw [List.filter_eq_self]
  intro x hx
  simp [h x hx]
/-- where the row stands: i written, j read -/
def Dl (g : Nat) (L : List PL) (q : PL → Bool) (w wr : World) (i j : Nat) : Prop := ∃ R : List PL, Rl wr g R ∧ R.length = L.length ∧ R.take i = (L.take j).filter (fun x => !q x) ∧ R.drop j = L.drop j ∧ i < j ∧ Ch (fun k => k = g) w wr
set_option maxHeartbeats 4000000 in
theorem delete_no (g cap : Nat) (L : List PL) (q : PL → Bool) (bx : Nat) (w : World) (hR : Rl w g L) (_hg : g < w.heap.size) (hn : L.length ≤ 100000) (hq : Tl (fun W => Ch (fun k => k = g) w W) bx q) (ha : ∀ x ∈ L, q x = false) : Calls Try.prog 55 #[.slice (some ⟨g, 0, none⟩) L.length cap, .func (.func 56) #[] #[pt bx]] w fun e w' => e = .returned (.slice (some ⟨g, 0, none⟩) L.length cap) ∧ Below w.heap.size w w' := by
  have SI : Hid (Calls Try.prog 63 #[.slice (some ⟨g, 0, none⟩) L.length cap, .func (.func 56) #[] #[pt bx]] w fun e w' => e = .returned (.int .i64 (-1)) ∧ Below w.heap.size w w') :=
    (index_any g cap L q bx w hR hn (fun W hW p => hq W (Ch.of_below hW) p)).mono fun e w' ⟨r, h1, h2, h3⟩ => by
      rcases h2 with ⟨rfl, _⟩ | ⟨k, hk, rfl, _, h5⟩
      · exact ⟨h1, h3⟩
      · have := h5 _ (List.getElem?_eq_getElem hk)
        rw [ha _ (List.getElem_mem hk)] at this
        cases this
  generalize L.length = n at SI ⊢
  clear hR hq ha hn
  go_enter Try.func55, Try.ntmps55
  go_wp2_with (go_at_call 63; refine SI.out.mono ?_; rintro e w1 ⟨rfl, b1⟩; have HB : Hid (Below w.heap.size w w1) := b1; clear b1)
  go_ret
  exact ⟨rfl, HB.out⟩
set_option maxHeartbeats 8000000 in
theorem delete_yes (g cap : Nat) (L : List PL) (q : PL → Bool) (bx : Nat) (w : World) (hR : Rl w g L) (hg : g < w.heap.size) (hn : L.length ≤ 100000) (hc : L.length ≤ cap) (hq : Tl (fun W => Ch (fun k => k = g) w W) bx q) (ha : ¬ ∀ x ∈ L, q x = false) : Calls Try.prog 55 #[.slice (some ⟨g, 0, none⟩) L.length cap, .func (.func 56) #[] #[pt bx]] w fun e w' => ∃ R : List PL, e = .returned (.slice (some ⟨g, 0, none⟩) R.length cap) ∧ R = L.filter (fun x => !q x) ∧ Rl w' g R ∧ Ch (fun k => k = g) w w' := by
  have SI : Hid (Calls Try.prog 63 #[.slice (some ⟨g, 0, none⟩) L.length cap, .func (.func 56) #[] #[pt bx]] w fun e w' => ∃ k : Nat, k < L.length ∧ e = .returned (.int .i64 (k : Int)) ∧ Hid (Dl g L q w w' k (k + 1))) :=
    (index_any g cap L q bx w hR hn (fun W hW p => hq W (Ch.of_below hW) p)).mono fun e w' ⟨r, h1, h2, h3⟩ => by
      rcases h2 with ⟨rfl, h4⟩ | ⟨k, hk, rfl, h4, h5⟩
      · exact absurd h4 ha
      · refine ⟨k, hk, h1, L, hR.below h3, rfl, ?_, rfl, Nat.lt_succ_self _, Ch.of_below h3⟩
        rw [filt_no (List.getElem?_eq_getElem hk) (h5 _ (List.getElem?_eq_getElem hk)), filt_all h4]
  have HQ : Hid (Tl (fun W => Ch (fun k => k = g) w W) bx q) := hq
  have HG : Hid (g < w.heap.size) := hg
  obtain ⟨n, hN⟩ : ∃ n, n = L.length := ⟨_, rfl⟩
  rw [← hN] at SI hn hc ⊢
  have NN : Hid (n = L.length) := hN
  have HC : Hid (n ≤ cap) := hc
  clear hR hq hN hg ha hc
  go_enter Try.func55, Try.ntmps55
  go_wp2_with (go_at_call 63; refine SI.out.mono ?_; rintro e w1 ⟨k, hk, rfl, HD⟩; have k0 : (0 : Int) ≤ (k : Int) := (by omega); have k1 : (k : Int) ≤ 100000 := (by omega); have e1 : ((k : Int) == -1) = false := beq_eq_false_iff_ne.2 (by omega); have e2 : IntKind.i64.wrap ((k : Int) + 1) = (k : Int) + 1 := (by rw [IntKind.wrap_i64]; omega))
  go_loopw [5, 6] (fun iv jv wr => ∃ i j : Nat, i ≤ n ∧ j ≤ n ∧ iv = .int .i64 i ∧ jv = .int .i64 j ∧ Hid (Dl g L q w wr i j)) (fun _ jv _ => n - (intOf jv).toNat)
  case atStart => exact ⟨k, k + 1, by omega, by omega, rfl, by go_num, HD⟩
  case round =>
    clear HD k0 k1 e1 e2 hk SI
    obtain ⟨i, j, hi, hj, rfl, rfl, HD⟩ := hrel
    have i0 : (0 : Int) ≤ (i : Int) := by omega
    have j0 : (0 : Int) ≤ (j : Int) := by omega
    by_cases hlt : j < n
    · have j1 : (j : Int) < (n : Int) := by omega
      obtain ⟨x, hx⟩ : ∃ x, L[j]? = some x := ⟨_, List.getElem?_eq_getElem (by have := NN.out; omega)⟩
      obtain ⟨R, hr, hlen, htk, hdr, hij, hch⟩ := HD.out
      have HX : Hid (L[j]? = some x) := hx
      have HR : Hid (Rl wr g R) := hr
      have HL : Hid (R.length = L.length) := hlen
      have HT : Hid (R.take i = (L.take j).filter (fun x => !q x)) := htk
      have HDr : Hid (R.drop j = L.drop j) := hdr
      have HI : Hid (i < j) := hij
      have HCh : Hid (Ch (fun k => k = g) w wr) := hch
      have RX : Hid (R[j]? = some x) := drop_at hdr hx
      have nn := two (hr j x RX.out)
      have HS : Hid (w.heap.size ≤ wr.heap.size) := hch.size
      have GL : Hid (g < wr.heap.size) := Nat.lt_of_lt_of_le HG.out hch.size
      clear hr hlen htk hdr hij hch hx HD
      have t0 : (0 : Nat) = 0 := rfl
      cases hv : q x with
      | true =>
        have HC1 : Hid (∀ W, Ch (fun k => k = g) w W → Calls Try.prog 56 #[.agg (pc x).toArray, pt bx] W fun e W' => e = .returned (.bool true) ∧ Below W.heap.size W W') := fun W hW => by rw [← hv]; exact HQ.out W hW x
        have HV : Hid (q x = true) := hv
        clear hv
        go_wp2_with (first
          | (have qq := t2; go_at_call 56; refine (HC1.out _ HCh.out).mono ?_; rintro e w4 ⟨rfl, B4⟩; have HCh : Hid (Ch (fun k => k = g) w w4) := HCh.out.trans (Ch.of_below B4); have HR : Hid (Rl w4 g R) := HR.out.below B4; clear B4 t2)
          | (have qq := t1; (with_reducible refine at_store ?_); refine store_lawC _ (pc x) wr.heap.size 0 rfl rfl VZ.out.2 size_place (pc_one x) ?_; intro w3 _ r3 h3 B3; have HCh : Hid (Ch (fun k => k = g) w w3) := HCh.out.join (Ch.of_new B3) (fun k hk h => absurd h (by have := HS.out; omega)); have p0 := r3 0 _ rfl; have p1 := r3 1 _ rfl; rw [Nat.zero_add] at p0 p1; have HR : Hid (Rl w3 g R) := HR.out.heap (B3.block g GL.out); clear B3 r3 h3 t1; have t2 : (0 : Nat) = 0 := rfl)
          | (have qq := t0; (with_reducible refine at_alloc ?_); refine new_lawC _ (pc (0, 0)) zero_place ?_; intro w2 X2 B2 l2; have VZ : Hid (Vr w2 wr.heap.size (pc (0, 0))) := X2; have HCh : Hid (Ch (fun k => k = g) w w2) := HCh.out.trans (Ch.of_below B2); have HR : Hid (Rl w2 g R) := HR.out.below B2; clear X2 B2 t0; have t1 : (0 : Nat) = 0 := rfl))
        go_roundw
        case rel =>
          exact ⟨i, j + 1, hi, by omega, rfl, by go_num, R, HR.out, HL.out, by rw [HT.out, filt_no HX.out HV.out], drop_next HDr.out, by have := HI.out; omega, HCh.out⟩
        case measure => simp [intOf]; omega
      | false =>
        have HC1 : Hid (∀ W, Ch (fun k => k = g) w W → Calls Try.prog 56 #[.agg (pc x).toArray, pt bx] W fun e W' => e = .returned (.bool false) ∧ Below W.heap.size W W') := fun W hW => by rw [← hv]; exact HQ.out W hW x
        have HV : Hid (q x = false) := hv
        have wi : IntKind.i64.wrap ((i : Int) + 1) = (i : Int) + 1 := by rw [IntKind.wrap_i64]; omega
        have i1 : (i : Int) < (n : Int) := by have := HI.out; omega
        have IR : Hid (i < R.length) := by have := HI.out; have := HL.out; have := NN.out; show _ < _; omega
        clear hv
        go_wp2_with (first
          | (have qq := t3; (with_reducible refine at_store ?_); refine store_lawC _ (pc x) g (i * 2) rfl rfl (HR.out i _ (List.getElem?_eq_getElem IR.out)).2 size_place (pc_one x) ?_; intro w5 e5 _ _ _; have HR : Hid (Rl w5 g (R.set i x)) := (by rw [e5.out]; exact HR.out.put i x IR.out); have HCh : Hid (Ch (fun k => k = g) w w5) := HCh.out.trans (by rw [e5.out]; exact Ch.of_wrt (wrt_cells w4 g (i * 2) 2 (pc x) rfl) rfl); clear e5 t3)
          | (have qq := t2; go_at_call 56; refine (HC1.out _ HCh.out).mono ?_; rintro e w4 ⟨rfl, B4⟩; have HCh : Hid (Ch (fun k => k = g) w w4) := HCh.out.trans (Ch.of_below B4); have HR : Hid (Rl w4 g R) := HR.out.below B4; have VZ : Hid (Vr w4 wr.heap.size (pc x)) := VZ.out.below B4 (range_lt VZ.out.1 (Nat.succ_pos _)); have p0 := VZ.out.cell 0 _ rfl; have p1 := VZ.out.cell 1 _ rfl; clear B4 t2; have t3 : (0 : Nat) = 0 := rfl)
          | (have qq := t1; (with_reducible refine at_store ?_); refine store_lawC _ (pc x) wr.heap.size 0 rfl rfl VZ.out.2 size_place (pc_one x) ?_; intro w3 _ r3 h3 B3; have HCh : Hid (Ch (fun k => k = g) w w3) := HCh.out.join (Ch.of_new B3) (fun k hk h => absurd h (by have := HS.out; omega)); have VZ : Hid (Vr w3 wr.heap.size (pc x)) := ⟨r3, h3⟩; have p0 := r3 0 _ rfl; have p1 := r3 1 _ rfl; rw [Nat.zero_add] at p0 p1; have HR : Hid (Rl w3 g R) := HR.out.heap (B3.block g GL.out); clear B3 r3 h3 t1; have t2 : (0 : Nat) = 0 := rfl)
          | (have qq := t0; (with_reducible refine at_alloc ?_); refine new_lawC _ (pc (0, 0)) zero_place ?_; intro w2 X2 B2 l2; have VZ : Hid (Vr w2 wr.heap.size (pc (0, 0))) := X2; have HCh : Hid (Ch (fun k => k = g) w w2) := HCh.out.trans (Ch.of_below B2); have HR : Hid (Rl w2 g R) := HR.out.below B2; clear X2 B2 t0; have t1 : (0 : Nat) = 0 := rfl))
        go_roundw
        case rel =>
          exact ⟨i + 1, j + 1, by omega, by omega, by go_num, by go_num, R.set i x, HR.out, by rw [List.length_set]; exact HL.out, by rw [take_set x IR.out, HT.out, filt_yes HX.out HV.out], by rw [drop_set x (by have := HI.out; omega)]; exact drop_next HDr.out, by have := HI.out; omega, HCh.out⟩
        case measure => simp [intOf]; omega
    · have ej : j = n := by omega
      subst ej
      obtain ⟨R, hr, hlen, htk, hdr, hij, hch⟩ := HD.out
      have HR : Hid (Rl wr g R) := hr
      have HL : Hid (R.length = L.length) := hlen
      have HT : Hid (R.take i = L.filter (fun x => !q x)) := by show R.take i = _; rw [htk, NN.out, List.take_length]
      have HCh : Hid (Ch (fun k => k = g) w wr) := hch
      have LI : Hid ((R.take i).length = i) := by show _ = _; rw [List.length_take]; have := NN.out; omega
      clear hr hlen htk hdr hij hch HD
      have t0 : (0 : Nat) = 0 := rfl
      have n1 : ¬ (j : Int) < (j : Int) := by omega
      go_wp2_with (first
        | (have qq := t2; refine to_lawP _ rfl (.tmp 39) (.tmp 40) rfl g j cap i rfl rfl (by have := HC.out; omega) ?_; clear t2)
        | (have qq := t1; refine clear_lawP _ rfl (.tmp 38) rfl g j cap i R v9 rfl HV9 HR.out (by have := HL.out; have := NN.out; omega) hi HC.out ?_; intro w2 R2 C2; have HR2 : Hid (Rl w2 g (R.take i)) := R2; have HCh : Hid (Ch (fun k => k = g) w w2) := HCh.out.trans C2; clear R2 C2 t1; have t2 : (0 : Nat) = 0 := rfl)
        | (have qq := t0; refine from_lawP _ rfl (.tmp 36) (.tmp 37) rfl (some ⟨g, 0, none⟩) j cap i rfl rfl hi ?_; intro v9 HV9; clear t0; have t1 : (0 : Nat) = 0 := rfl))
      go_ret
      exact ⟨R.take i, by rw [LI.out]; rfl, HT.out, HR2.out, HCh.out⟩
end Go.Proofs.Ytedmmpognhpbdaa.pm
