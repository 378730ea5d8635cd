/- What the reference's Compress answers. No claim of its own. -/
import Derived.Test.YtaplllonomdgeaaRefWords
namespace Go.Proofs.Ytaplllonomdgeaa
open Go.RowKit

theorem pushs_lawW {ops : Array Oper} {rest : List Oper} {o : Oper} {a : Act} {Q : Exit → Act → World → Prop} (w : World) (hg : o.guard = none) (s x : Operand) (hop : o.op = .call { callee := .builtin .append, args := #[s, x], argTypes := #[56, 56] })
    (B : Nat) (hB : B ≤ w.heap.size) (v vy : Value) (xs ys : List Int) (hs : a.eval s = v) (hx : a.eval x = vy) (hown : OwnW B w v xs) (hy : Wrd w vy ys) (hn : xs.length ≤ 1099511627776) (hm : ys.length ≤ 1099511627776)
    (hK : ∀ v' w', OwnW B w' v' (xs ++ ys) → Below B w w' → wpList Try.prog ops Q rest (a.put o.dst v') w') :
    wpList Try.prog ops Q (o :: rest) a w := by
  obtain ⟨i0, hi, hz0, hz1, hz2⟩ := info_parts info_u32
  obtain ⟨ao, cap, rfl, h1, h2, h3, h4, h5⟩ := hy
  cases ao with
  | none =>
    have hc := h4 rfl
    subst hc
    have : ys = [] := List.eq_nil_of_length_eq_zero (by omega)
    subst this
    refine wpList_append_own_none hg s x 56 hop B 59 i0 1 Try.underlying56 hi v xs.length _ hs hown hx (hK v w ?_ (Below.refl _ _))
    rwa [List.append_nil]
  | some ad =>
    refine wpList_append_own _ hg s x 56 hop B 59 i0 (.int .u32 0) 1 4 Try.underlying56 hi hz0 hz1 hz2 rfl (by decide) v xs.length _ hs hown ad ys.length cap (ys.map (Value.int .u32)) hx (by simp) ?_ ?_ (by simp only [maxLen]; omega) (by omega) hB fun v' w' h1 h2 _ => ?_
    · intro j u hj
      have hjl : j < ys.length := by have := (List.getElem?_eq_some_iff.1 hj).1; simpa using this
      obtain ⟨b, off, e, hc⟩ := h5 (by omega)
      cases e
      rw [Addr.add_mid, hc j hjl, ← hj]
      simp [gb, List.getD, hjl]
    · intro u hu
      simp only [List.mem_map] at hu
      obtain ⟨y, _, rfl⟩ := hu
      rfl
    · refine hK v' w' ?_ ?_
      · show w'.ownsRow B 59 1 v' (xs ++ ys).length ((xs ++ ys).map (Value.int .u32))
        simpa using h1
      · exact (Below.refl B w).grown h2 hB fun k hk => (World.ownsRow.lt hown k hk).1

theorem step_build8W {ops : Array Oper} {o : Oper} {a : Act} {Q : Exit → Act → World → Prop} {K : Act → World → Prop} {E : Prop} (w : World) (hg : o.guard = none) (d : Option Tmp) (hd : o.dst = d) (p0 p1 p2 p3 p4 p5 p6 p7 : Operand)
    (hop : o.op = Op.buildSlice 56 8 #[(0, p0), (1, p1), (2, p2), (3, p3), (4, p4), (5, p5), (6, p6), (7, p7)]) (c0 c1 c2 c3 c4 c5 c6 c7 : Int) (hx : a.eval p0 = .int .u32 c0 ∧ a.eval p1 = .int .u32 c1 ∧ a.eval p2 = .int .u32 c2 ∧ a.eval p3 = .int .u32 c3 ∧ a.eval p4 = .int .u32 c4 ∧ a.eval p5 = .int .u32 c5 ∧ a.eval p6 = .int .u32 c6 ∧ a.eval p7 = .int .u32 c7)
    (hK : K (a.put d (.slice (some ⟨w.heap.size, 0, none⟩) 8 8)) (w.alloc (.cells (ints .u32 [c0, c1, c2, c3, c4, c5, c6, c7]) 59))) : if Region.wanted o (yielded ops a.tmps) = true then Oper.wp Try.prog o a w K Q else E := by
  have hw : Region.wanted o (yielded ops a.tmps) = true := by simp [Region.wanted, hg]
  rw [if_pos hw]
  subst hd
  obtain ⟨x0, x1, x2, x3, x4, x5, x6, x7⟩ := hx
  have hrun : (Instr.buildSlice 56 8 #[(0, .int .u32 c0), (1, .int .u32 c1), (2, .int .u32 c2), (3, .int .u32 c3), (4, .int .u32 c4), (5, .int .u32 c5), (6, .int .u32 c6), (7, .int .u32 c7)]).run Try.prog w = .ok (.slice (some ⟨w.heap.size, 0, none⟩) 8 8) (w.alloc (.cells (ints .u32 [c0, c1, c2, c3, c4, c5, c6, c7]) 59)) := by kernel_rfl
  unfold Oper.wp execOp
  simp only [hop, List.map_toArray, List.map_cons, List.map_nil, x0, x1, x2, x3, x4, x5, x6, x7, Sem.run_bind, Sem.run_pure, Result.andThen_ok, hrun]
  exact hK

theorem Wrd.opn {w : World} {v : Value} {xs : List Int} (h : Wrd w v xs) (n : Nat) (hn : xs.length = n) (hp : 0 < n) : ∃ b off cap, v = .slice (some ⟨b, off, none⟩) n cap ∧ n ≤ cap ∧ cap ≤ 9223372036854775807 ∧ b < w.heap.size ∧ ∀ t, t < n → w.cell? ⟨b, off + t, none⟩ = some (.int .u32 (gb xs t)) := by
  subst hn
  obtain ⟨ao, cap, rfl, h1, h2, -, -, h5⟩ := h
  obtain ⟨b, off, rfl, hc⟩ := h5 hp
  exact ⟨b, off, cap, rfl, h1, h2, World.block_lt_of_cell? w _ (hc 0 hp), hc⟩
theorem rnds_len (st ws : List Int) (h : st.length = 8) (t : Nat) : (rnds st ws t).length = 8 := by
  cases t with
  | zero => exact h
  | succ t => rfl
theorem addl_take (st r : List Int) (k : Nat) (h : k < 8) : (addl st r).take (k + 1) = (addl st r).take k ++ [(gb r k + gb st k) % 4294967296] := by
  have hk : k = 0 ∨ k = 1 ∨ k = 2 ∨ k = 3 ∨ k = 4 ∨ k = 5 ∨ k = 6 ∨ k = 7 := by omega
  rcases hk with rfl | rfl | rfl | rfl | rfl | rfl | rfl | rfl <;> rw [Int.add_comm (gb r _)] <;> rfl

set_option linter.unusedSimpArgs false in
set_option maxRecDepth 100000 in
set_option maxHeartbeats 8000000 in
theorem rcompress_any (w : World) (s v : Value) (st bs : List Int) (hs : Wrd w s st) (hb : Byt w v bs) (h8 : st.length = 8) (h64 : bs.length = 64) :
    Calls Try.prog 39 #[s, v] w fun e w' => ∃ r, e = .returned r ∧ Wrd w' r (comp st bs) ∧ Below w.heap.size w w' := by
  have HS : Hid (Wrd w s st) := hs
  have HB : Hid (Byt w v bs) := hb
  have AS : Hid (AllW st) := hs.all
  have H8 : Hid (st.length = 8) := h8
  have H64 : Hid (bs.length = 64) := h64
  have HC : Hid (comp st bs = addl st (rnds st (sched bs 64) 64)) := rfl
  have HWS : Hid ((sched bs 64).length = 64) := sched_len bs 64
  have HRW : Hid (∀ w0, Byt w0 v bs → Calls Try.prog 44 #[v] w0 fun e w' => ∃ r, e = .returned r ∧ Wrd w' r (sched bs 64) ∧ Below w0.heap.size w0 w') := fun w0 h => rwords_any w0 v bs h h64
  have HRA : Hid (∀ t, AllW (rnds st (sched bs 64) t)) := fun t => rnds_all st _ AS.out t
  have HRN : Hid (∀ t, rnds st (sched bs 64) (t + 1) = rnd (rnds st (sched bs 64) t) (gb kc t) (gb (sched bs 64) t)) := fun t => rfl
  have HRL : Hid (∀ t, (rnds st (sched bs 64) t).length = 8) := fun t => rnds_len st _ h8 t
  have HR0 : Hid (rnds st (sched bs 64) 0 = st) := rfl
  generalize comp st bs = cm at *
  generalize rnds st (sched bs 64) = RS at *
  generalize sched bs 64 = ws at *
  clear hs hb h8 h64
  go_enter Try.func39, Try.ntmps39
  go_wp2_with (first
    | (go_at_call 44; refine (HRW.out _ HB.out).mono ?_; rintro e w1 ⟨v1, rfl, hv1, B1⟩; have HV1 : Hid (Wrd w1 v1 ws) := hv1; clear hv1; have s1 := B1.size)
    | (go_at_call 45; refine (rconstants_any _).mono ?_; rintro e w2 ⟨v2, rfl, hv2, B2⟩; have HV2 : Hid (Wrd w2 v2 kc) := hv2; clear hv2; have s2 := B2.size; have HV12 : Hid (Wrd w2 v1 ws) := HV1.out.below B2; have C2 : Below w.heap.size w w2 := B1.trans (B2.mono s1); have HS2 : Hid (Wrd (w2.alloc (.cells #[] 59)) s st) := (HS.out.below C2).below (((Below.refl _ _).alloc (Nat.le_refl _) _)); have HOE : Hid (OwnW w2.heap.size (w2.alloc (.cells #[] 59)) (.slice (some ⟨w2.heap.size, 0, none⟩) 0 0) []) := OwnW.empty w2 (Nat.le_refl _); have BE : Below w2.heap.size w2 (w2.alloc (.cells #[] 59)) := (Below.refl _ _).alloc (Nat.le_refl _) _)
    | (refine pushs_lawW _ rfl (.tmp 16) (.tmp 17) rfl w2.heap.size BE.size _ _ [] st rfl rfl HOE.out HS2.out (by simp) (by rw [H8.out]; omega) ?_; intro v3 w3 O3 b3; rw [List.nil_append] at O3; have HV3 : Hid (Wrd w3 v3 st) := O3.wrd AS.out; clear O3; have B3 : Below w2.heap.size w2 w3 := BE.trans b3; have s3 := B3.size))
  obtain ⟨bk, ok, ck, rfl, k1, k2, k3, hck⟩ := HV2.out.opn 64 kc_len (by omega)
  obtain ⟨bw, ow, cw, rfl, m1, m2, m3, hcw⟩ := HV12.out.opn 64 HWS.out (by omega)
  have HCK : Hid (∀ t, t < 64 → w2.cell? ⟨bk, ok + t, none⟩ = some (.int .u32 (gb kc t))) := hck
  have HCW : Hid (∀ t, t < 64 → w2.cell? ⟨bw, ow + t, none⟩ = some (.int .u32 (gb ws t))) := hcw
  have HL2 : Hid (bk < w2.heap.size ∧ bw < w2.heap.size) := ⟨k3, m3⟩
  clear hck hcw k3 m3 HV1
  go_loopw [7, 8] (fun r i wr => ∃ k : Nat, k ≤ 64 ∧ i = .int .i64 k ∧ Wrd wr r (RS k) ∧ Below w2.heap.size w2 wr) (fun _ i _ => 64 - (intOf i).toNat)
  case atStart => exact ⟨0, Nat.zero_le _, rfl, by rw [HR0.out]; exact HV3.out, B3⟩
  case round =>
    obtain ⟨k, hk, rfl, hv, hbel⟩ := hrel
    have q1 : IntKind.i64.wrap (k : Int) = k := by rw [IntKind.wrap_i64]; omega
    have k0 : (0 : Int) ≤ (k : Int) := by omega
    by_cases hlt : k < 64
    · have k64 : (k : Int) < 64 := by omega
      obtain ⟨bv, ov, cv, rfl, v1', v2', v3', hcell⟩ := hv.opn 8 (HRL.out k) (by omega)
      have xk : wr.cell? ⟨bk, ok + k, none⟩ = some (.int .u32 (gb kc k)) := (hbel.cell HL2.out.1).trans (HCK.out k hlt)
      have xw : wr.cell? ⟨bw, ow + k, none⟩ = some (.int .u32 (gb ws k)) := (hbel.cell HL2.out.2).trans (HCW.out k hlt)
      have c0 := hcell 0 (by omega)
      have c1 := hcell 1 (by omega)
      have c2 := hcell 2 (by omega)
      have c3 := hcell 3 (by omega)
      have c4 := hcell 4 (by omega)
      have c5 := hcell 5 (by omega)
      have c6 := hcell 6 (by omega)
      have c7 := hcell 7 (by omega)
      have c0' := c0
      rw [Nat.add_zero] at c0'
      have E := HRN.out k
      have W0 : Hid (W32 (gb (RS k) 0)) := HRA.out k 0
      have W4 : Hid (W32 (gb (RS k) 4)) := HRA.out k 4
      obtain ⟨kk, hkk⟩ : ∃ x, x = gb kc k := ⟨_, rfl⟩
      obtain ⟨ww, hww⟩ : ∃ x, x = gb ws k := ⟨_, rfl⟩
      obtain ⟨r, hr⟩ : ∃ r, r = RS k := ⟨_, rfl⟩
      rw [← hkk] at xk E
      rw [← hww] at xw E
      rw [← hr] at E W0 W4 c0 c1 c2 c3 c4 c5 c6 c7 c0'
      have HRW' : Hid (AllW (rnd r kk ww)) := by rw [← E]; exact HRA.out _
      have HE : Hid (RS (k + 1) = [(tt1 r kk ww + tt2 r) % 4294967296, gb r 0, gb r 1, gb r 2, (gb r 3 + tt1 r kk ww) % 4294967296, gb r 4, gb r 5, gb r 6]) := E
      have HT1 : Hid (tt1 r kk ww = ((((gb r 7 + bits .xor .u32 (bits .xor .u32 (rr (gb r 4) 6) (rr (gb r 4) 11)) (rr (gb r 4) 25)) % 4294967296 + bits .xor .u32 (bits .and .u32 (gb r 4) (gb r 5)) (bits .and .u32 (4294967295 - gb r 4) (gb r 6))) % 4294967296 + kk) % 4294967296 + ww) % 4294967296) := rfl
      have HT2 : Hid (tt2 r = (bits .xor .u32 (bits .xor .u32 (rr (gb r 0) 2) (rr (gb r 0) 13)) (rr (gb r 0) 22) + bits .xor .u32 (bits .xor .u32 (bits .and .u32 (gb r 0) (gb r 1)) (bits .and .u32 (gb r 0) (gb r 2))) (bits .and .u32 (gb r 1) (gb r 2))) % 4294967296) := rfl
      clear hr hkk hww E hcell hv
      generalize tt1 r kk ww = T1 at *
      generalize tt2 r = T2 at *
      generalize gb r 0 = r0 at *
      generalize gb r 1 = r1 at *
      generalize gb r 2 = r2 at *
      generalize gb r 3 = r3 at *
      generalize gb r 4 = r4 at *
      generalize gb r 5 = r5 at *
      generalize gb r 6 = r6 at *
      generalize gb r 7 = r7 at *
      have R6 : Hid (∀ w0, Calls Try.prog 46 #[.int .u32 r4, .int .i64 6] w0 fun e w' => e = .returned (.int .u32 (rr r4 6)) ∧ ∃ d, w' = w0.drewN d) := fun w0 => rotr_any r4 6 w0 W4.out (by omega)
      have R11 : Hid (∀ w0, Calls Try.prog 46 #[.int .u32 r4, .int .i64 11] w0 fun e w' => e = .returned (.int .u32 (rr r4 11)) ∧ ∃ d, w' = w0.drewN d) := fun w0 => rotr_any r4 11 w0 W4.out (by omega)
      have R25 : Hid (∀ w0, Calls Try.prog 46 #[.int .u32 r4, .int .i64 25] w0 fun e w' => e = .returned (.int .u32 (rr r4 25)) ∧ ∃ d, w' = w0.drewN d) := fun w0 => rotr_any r4 25 w0 W4.out (by omega)
      have R2 : Hid (∀ w0, Calls Try.prog 46 #[.int .u32 r0, .int .i64 2] w0 fun e w' => e = .returned (.int .u32 (rr r0 2)) ∧ ∃ d, w' = w0.drewN d) := fun w0 => rotr_any r0 2 w0 W0.out (by omega)
      have R13 : Hid (∀ w0, Calls Try.prog 46 #[.int .u32 r0, .int .i64 13] w0 fun e w' => e = .returned (.int .u32 (rr r0 13)) ∧ ∃ d, w' = w0.drewN d) := fun w0 => rotr_any r0 13 w0 W0.out (by omega)
      have R22 : Hid (∀ w0, Calls Try.prog 46 #[.int .u32 r0, .int .i64 22] w0 fun e w' => e = .returned (.int .u32 (rr r0 22)) ∧ ∃ d, w' = w0.drewN d) := fun w0 => rotr_any r0 22 w0 W0.out (by omega)
      generalize rr r4 6 = y6 at *
      generalize rr r4 11 = y11 at *
      generalize rr r4 25 = y25 at *
      generalize rr r0 2 = y2 at *
      generalize rr r0 13 = y13 at *
      generalize rr r0 22 = y22 at *
      obtain ⟨b1, b2⟩ : 0 ≤ r4 ∧ r4 ≤ 4294967295 := W4.out
      have nt : IntKind.u32.wrap (4294967295 - r4) = 4294967295 - r4 := by rw [IntKind.wrap_u32]; omega
      go_wp2
      go_quiet (first
        | with_reducible exact Calls.quiet_of (R6.out _)
        | with_reducible exact Calls.quiet_of (R11.out _)
        | with_reducible exact Calls.quiet_of (R25.out _))
      have HX1 : (((r7 + bits BinOp.xor IntKind.u32 (bits BinOp.xor IntKind.u32 y6 y11) y25 + bits BinOp.xor IntKind.u32 (bits BinOp.and IntKind.u32 r4 r5) (bits BinOp.and IntKind.u32 (4294967295 - r4) r6) + kk) % 4294967296 + ww) % 4294967296) = T1 := by
        rw [HT1.out]; omega
      rw [HX1]
      clear HX1
      have BB1 : Below w2.heap.size w2 (wr.drewN nq) := below_drewN hbel nq
      have c0n : (wr.drewN nq).cell? _ = _ := c0
      have c0'n : (wr.drewN nq).cell? _ = _ := c0'
      have c1n : (wr.drewN nq).cell? _ = _ := c1
      have c2n : (wr.drewN nq).cell? _ = _ := c2
      have c3n : (wr.drewN nq).cell? _ = _ := c3
      have c4n : (wr.drewN nq).cell? _ = _ := c4
      have c5n : (wr.drewN nq).cell? _ = _ := c5
      have c6n : (wr.drewN nq).cell? _ = _ := c6
      clear c0 c0' c1 c2 c3 c4 c5 c6
      generalize wr.drewN nq = wd at *
      go_wp2
      go_quiet (first
        | with_reducible exact Calls.quiet_of (R2.out _)
        | with_reducible exact Calls.quiet_of (R13.out _)
        | with_reducible exact Calls.quiet_of (R22.out _))
      rw [← HT2.out]
      have BB2 : Below w2.heap.size w2 (wd.drewN nq) := below_drewN BB1 nq
      have c0n2 : (wd.drewN nq).cell? _ = _ := c0n
      have c0'n2 : (wd.drewN nq).cell? _ = _ := c0'n
      have c1n2 : (wd.drewN nq).cell? _ = _ := c1n
      have c2n2 : (wd.drewN nq).cell? _ = _ := c2n
      have c3n2 : (wd.drewN nq).cell? _ = _ := c3n
      have c4n2 : (wd.drewN nq).cell? _ = _ := c4n
      have c5n2 : (wd.drewN nq).cell? _ = _ := c5n
      have c6n2 : (wd.drewN nq).cell? _ = _ := c6n
      clear c0n c0'n c1n c2n c3n c4n c5n c6n
      generalize wd.drewN nq = we at *
      obtain ⟨n0, hn0⟩ : ∃ x, x = (T1 + T2) % 4294967296 := ⟨_, rfl⟩
      obtain ⟨n4, hn4⟩ : ∃ x, x = (r3 + T1) % 4294967296 := ⟨_, rfl⟩
      rw [← hn0, ← hn4] at HE
      have HN0 : Hid (n0 = (T1 + T2) % 4294967296) := hn0
      have HN4 : Hid (n4 = (r3 + T1) % 4294967296) := hn4
      clear hn0 hn4
      go_wp2
      refine wp_region_any (by kernel_rfl) ?_
      change wpAny _ _ _ _ _ _ _ (World.drew _)
      refine wpAny_quiet_then (C := fun w' => ∃ n, w' = we.drewN n) 0 26 2 _ (by kernel_rfl) rfl (by kernel_rfl) (by kernel_rfl) ⟨1, rfl⟩ ?_
      simp only [List.take_succ_cons, List.take_zero, List.drop_zero]
      repeat (quiet_step (fail))
      refine wpQuiet_nil ?_
      rintro f _ ⟨nq, rfl⟩
      refine wpAny_ready (rs := [26]) (by kernel_rfl) (by simp) ?_
      refine AllReady.cons rfl (fun K hK => ?_) AllReady.nil
      refine step_build8W _ rfl (some 132) rfl (.tmp 108) (.tmp 111) (.tmp 114) (.tmp 117) (.tmp 122) (.tmp 125) (.tmp 128) (.tmp 131) rfl n0 r0 r1 r2 n4 r4 r5 r6 ⟨by rw [HN0.out]; rfl, rfl, rfl, rfl, by rw [HN4.out]; rfl, rfl, rfl, rfl⟩ (hK _ _ ?_)
      have BB3 : Below w2.heap.size w2 (we.drewN nq) := below_drewN BB2 nq
      have hw6 := (Ar.new (we.drewN nq) 59 .u32 [n0, r0, r1, r2, n4, r4, r5, r6]).wrd (by rw [← HE.out]; exact HRA.out _) (by simp)
      have BB4 : Below w2.heap.size w2 ((we.drewN nq).alloc (.cells (ints .u32 [n0, r0, r1, r2, n4, r4, r5, r6]) 59)) := BB3.alloc BB3.size _
      rw [← HE.out, HRL.out] at hw6
      have HW6 : Hid (Wrd ((we.drewN nq).alloc (.cells (ints .u32 [n0, r0, r1, r2, n4, r4, r5, r6]) 59)) (.slice (some ⟨(we.drewN nq).heap.size, 0, none⟩) 8 8) (RS (k + 1))) := by
        have e := HE.out
        rw [e] at hw6 ⊢
        exact hw6
      clear hw6
      simp only [Act.put, List.setIfInBounds_toArray, List.set_cons_zero, List.set_cons_succ]
      generalize (we.drewN nq).alloc (.cells (ints .u32 [n0, r0, r1, r2, n4, r4, r5, r6]) 59) = w6 at *
      generalize (we.drewN nq).heap.size = g6 at *
      refine wpAny_ready (rs := [27]) (by kernel_rfl) (by simp) ?_
      refine AllReady.cons rfl (fun K hK => ?_) AllReady.nil
      refine step_assign _ rfl (some 7) rfl (.tmp 132) rfl (.slice (some ⟨g6, 0, none⟩) 8 8) rfl (hK _ _ ?_)
      simp only [Act.put, List.setIfInBounds_toArray, List.set_cons_zero, List.set_cons_succ]
      refine wpAny_done (by kernel_rfl) ?_ _
      go_wp2
      go_roundw
      case rel => exact ⟨k + 1, by omega, by go_num, HW6.out, BB4⟩
      case measure => simp [intOf]; omega
    · have : k = 64 := by omega
      subst this
      obtain ⟨wx, rfl⟩ : ∃ wx, wx = wr := ⟨_, rfl⟩
      obtain ⟨bv, ov, cv, rfl, v1', v2', v3', hcell⟩ := hv.opn 8 (HRL.out 64) (by omega)
      have BX : Below w.heap.size w wx := C2.trans (hbel.mono C2.size)
      obtain ⟨bs', os, cs, rfl, t1', t2', t3', hcs⟩ := (HS.out.below BX).opn 8 H8.out (by omega)
      have HV8 : Hid (∀ t, t < 8 → wx.cell? ⟨bv, ov + t, none⟩ = some (.int .u32 (gb (RS 64) t))) := hcell
      have HS8 : Hid (∀ t, t < 8 → wx.cell? ⟨bs', os + t, none⟩ = some (.int .u32 (gb st t))) := hcs
      have HSN : Hid (∀ k, k < 8 → (addl st (RS 64)).take (k + 1) = (addl st (RS 64)).take k ++ [(gb (RS 64) k + gb st k) % 4294967296]) := fun k hk => addl_take st (RS 64) k hk
      have HT8 : Hid ((addl st (RS 64)).take 8 = addl st (RS 64)) := rfl
      have HT0 : Hid ((addl st (RS 64)).take 0 = []) := rfl
      have HAA : Hid (AllW (addl st (RS 64))) := addl_all _ _
      have HTL : Hid (∀ k, ((addl st (RS 64)).take k).length ≤ 8) := fun k => by show List.length _ ≤ 8; rw [List.length_take]; exact Nat.min_le_right _ _
      generalize addl st (RS 64) = ad at *
      generalize RS 64 = r at *
      clear hv hcell hcs HRN HR0 HRL HRA HRW HCK HCW HL2 q1 k0
      go_wp2
      go_loopw [11, 12] (fun o i wr => ∃ k : Nat, k ≤ 8 ∧ i = .int .i64 k ∧ OwnW wx.heap.size wr o (ad.take k) ∧ Below wx.heap.size wx wr) (fun _ i _ => 8 - (intOf i).toNat)
      case atStart => exact ⟨0, Nat.zero_le _, rfl, by rw [HT0.out]; exact OwnW.empty wx (Nat.le_refl _), (Below.refl _ _).alloc (Nat.le_refl _) _⟩
      case round =>
        obtain ⟨k, hk, rfl, hown, hbx⟩ := hrel
        have hsz := hbx.size
        have q1 : IntKind.i64.wrap (k : Int) = k := by rw [IntKind.wrap_i64]; omega
        have k0 : (0 : Int) ≤ (k : Int) := by omega
        by_cases hlt8 : k < 8
        · have k8 : (k : Int) < 8 := by omega
          have xv : wr.cell? ⟨bv, ov + k, none⟩ = some (.int .u32 (gb r k)) := (hbx.cell v3').trans (HV8.out k hlt8)
          have xs : wr.cell? ⟨bs', os + k, none⟩ = some (.int .u32 (gb st k)) := (hbx.cell t3').trans (HS8.out k hlt8)
          have SN : Hid (ad.take (k + 1) = ad.take k ++ [(gb r k + gb st k) % 4294967296]) := HSN.out k hlt8
          have HLE : Hid ((ad.take k).length ≤ 1099511627776) := by have := HTL.out k; show _ ≤ _; omega
          have HO : Hid (OwnW wx.heap.size wr u11 (ad.take k)) := hown
          generalize ad.take k = tk at *
          generalize gb r k = rk at *
          generalize gb st k = sk at *
          clear hown
          go_wp2
          refine wp_region_any (by kernel_rfl) ?_
          change wpAny _ _ _ _ _ _ _ (World.drew _)
          refine take_law0 0 (some 138) u11 rfl rfl (by kernel_rfl) (by kernel_rfl) (by kernel_rfl) (fun _ _ _ h => h) (Or.inl ⟨by rfl, fun w => by rfl⟩) ?_
          simp only [Act.put, List.setIfInBounds_toArray, List.set_cons_zero, List.set_cons_succ]
          refine wpAny_quiet_then (C := fun w' => ∃ n, w' = wr.drewN n) 1 10 3 _ (by kernel_rfl) rfl (by kernel_rfl) (by kernel_rfl) ⟨1, rfl⟩ ?_
          simp only [List.take_succ_cons, List.take_zero, List.drop_succ_cons, List.drop_zero]
          repeat (quiet_step (fail))
          refine wpQuiet_nil ?_
          rintro f _ ⟨nq, rfl⟩
          refine wpAny_ready (rs := [10]) (by kernel_rfl) (by simp) ?_
          refine AllReady.cons rfl (fun K hK => ?_) AllReady.nil
          refine step_build1W _ rfl (some 148) rfl (.tmp 147) rfl ((rk + sk) % 4294967296) rfl (hK _ _ ?_)
          simp only [Act.put, List.setIfInBounds_toArray, List.set_cons_zero, List.set_cons_succ]
          refine wpAny_ready (rs := [11]) (by kernel_rfl) (by simp) ?_
          refine AllReady.cons rfl (fun K hK => ?_) AllReady.nil
          refine step_push1W (wr.drewN nq) rfl (.tmp 138) (.tmp 148) rfl wx.heap.size (by simpa using hsz) _ tk ((rk + sk) % 4294967296) rfl rfl (HO.out.drew nq) HLE.out ?_
          intro v2 w7 O2 b2
          refine hK _ _ ?_
          have HO2 : Hid (OwnW wx.heap.size w7 v2 (tk ++ [(rk + sk) % 4294967296])) := O2
          clear O2
          simp only [Act.put, List.setIfInBounds_toArray, List.set_cons_zero, List.set_cons_succ]
          refine wpAny_ready (rs := [12]) (by kernel_rfl) (by simp) ?_
          refine AllReady.cons rfl (fun K hK => ?_) AllReady.nil
          refine step_assign _ rfl (some 11) rfl (.tmp 149) rfl v2 rfl (hK _ _ ?_)
          simp only [Act.put, List.setIfInBounds_toArray, List.set_cons_zero, List.set_cons_succ]
          refine wpAny_done (by kernel_rfl) ?_ _
          go_wp2
          go_roundw
          case rel =>
            iterate 18 (apply Exists.intro)
            refine ⟨?_, rfl⟩
            exact ⟨k + 1, by omega, by go_num, by rw [SN.out]; exact HO2.out, (below_drewN hbx nq).trans b2⟩
          case measure => simp [intOf]; omega
        · have : k = 8 := by omega
          subst this
          rw [HT8.out] at hown
          go_wp2
          go_ret
          exact ⟨_, rfl, by rw [HC.out]; exact hown.wrd HAA.out, BX.trans (hbx.mono BX.size)⟩
end Go.Proofs.Ytaplllonomdgeaa
