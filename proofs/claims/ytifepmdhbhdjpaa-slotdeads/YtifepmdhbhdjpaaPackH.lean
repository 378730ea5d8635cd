/- Texts put together (a claim holds few files). No claim of its own. -/
import Derived.Test.YtifepmdhbhdjpaaPackG
import Derived.Test.YtifepmdhbhdjpaaPackF
/- What aes' New answers: a key's bytes as its rounds' keys. No claim of its own. -/
namespace Go.Proofs.Ytifepmdhbhdjpaa
open Go.RowKit
set_option maxRecDepth 20000

theorem ua_sts : Try.prog.underlying 80 = some (.array (Try.prog.arrayLen 80) (Try.prog.elem 80)) := by kernel_rfl
theorem la_sts : Try.prog.arrayLen 80 = 15 := by kernel_rfl
theorem ia_sts : (Try.prog.info? (Try.prog.elem 80)).map (·.size) = some 16 := by kernel_rfl

/-- all rounds' keys -/
def rks (key : List Int) : List Int := (List.range 240).map fun i => gb (wd key (i / 4)) (i % 4)
theorem rks_len (key : List Int) : (rks key).length = 240 := by simp [rks]
theorem rks_gb (key : List Int) (t : Nat) (h : t < 240) : gb (rks key) t = gb (wd key (t / 4)) (t % 4) := range_gb _ _ _ h
theorem rks_cut (key : List Int) (hk : key.length = 32) (ha : AllB key) (k : Nat) (h : k < 60) : cut4 (rks key) k = wd key k := by
  have hc := cut4_len (rks key) k (by rw [rks_len]; omega)
  refine ext_gb (by rw [hc, (wd_wd key hk ha k).1]) fun t ht => ?_
  rw [hc] at ht
  rw [cut4_gb _ _ _ ht, rks_gb _ _ (by omega), show (4 * k + t) / 4 = k by omega, show (4 * k + t) % 4 = t by omega]
theorem gb_app4 (a b : List Int) (n t : Nat) (ha : a.length = n) : gb (a ++ b) t = if t < n then gb a t else gb b (t - n) := by
  subst ha
  unfold gb
  by_cases h : t < a.length
  · rw [if_pos h, List.getD_eq_getElem?_getD, List.getElem?_append_left h]; rfl
  · rw [if_neg h, List.getD_eq_getElem?_getD, List.getElem?_append_right (by omega)]; rfl
theorem rk_gb (key : List Int) (hk : key.length = 32) (ha : AllB key) (r t : Nat) (h : t < 16) : gb (rk key r) t = gb (wd key (4 * r + t / 4)) (t % 4) := by
  have h0 := (wd_wd key hk ha (4 * r)).1
  have h1 := (wd_wd key hk ha (4 * r + 1)).1
  have h2 := (wd_wd key hk ha (4 * r + 2)).1
  unfold rk
  rw [gb_app4 _ _ 12 _ (by simp [h0, h1, h2]), gb_app4 _ _ 8 _ (by simp [h0, h1]), gb_app4 _ _ 4 _ h0]
  by_cases c3 : t < 12
  · rw [if_pos c3]
    by_cases c2 : t < 8
    · rw [if_pos c2]
      by_cases c1 : t < 4
      · rw [if_pos c1, show t / 4 = 0 by omega, show t % 4 = t by omega]; rfl
      · rw [if_neg c1, show t / 4 = 1 by omega, show t % 4 = t - 4 by omega]
    · rw [if_neg c2, show t / 4 = 2 by omega, show t % 4 = t - 8 by omega]
  · rw [if_neg c3, show t / 4 = 3 by omega, show t % 4 = t - 12 by omega]

/-- the key that lies in block kb -/
def KeyA (w : World) (kb : Nat) (key : List Int) : Prop := w.cell? ⟨kb, 0, none⟩ = some (.bool true) ∧ Ar w kb 1 .u8 (rks key)
theorem KeyA.lt {w : World} {kb : Nat} {key : List Int} (h : KeyA w kb key) : kb < w.heap.size := World.block_lt_of_cell? w _ h.1
theorem KeyA.below {w w' : World} {kb B : Nat} {key : List Int} (h : KeyA w kb key) (hb : Below B w w') (hB : kb < B) : KeyA w' kb key :=
  ⟨by rw [World.cell?_of_block (w := w) (w' := w') (a := ⟨kb, 0, none⟩) (hb.block kb hB)]; exact h.1, h.2.below hb hB⟩
theorem KeyA.round {w : World} {kb : Nat} {key : List Int} (h : KeyA w kb key) (hk : key.length = 32) (ha : AllB key) (r : Nat) (hr : r < 15) : Ar w kb (1 + 16 * r) .u8 (rk key r) := by
  have hl := (rk_blk key hk ha r).1
  refine h.2.subG (16 * r) (rk key r) (by rw [hl, rks_len]; omega) fun t ht => ?_
  rw [hl] at ht
  rw [rk_gb key hk ha r t ht, rks_gb _ _ (by omega), show (16 * r + t) / 4 = 4 * r + t / 4 by omega, show (16 * r + t) % 4 = t % 4 by omega]

/-- what a new key's cells are -/
def kz : List Value := .bool true :: (List.replicate 240 (0 : Int)).map (Value.int .u8)
theorem kz_at (w : World) (t : TypeId) : (w.alloc (.cells kz.toArray t)).cell? ⟨w.heap.size, 0, none⟩ = some (.bool true) ∧ Ar (w.alloc (.cells kz.toArray t)) w.heap.size 1 .u8 (List.replicate 240 0) := by
  have e : ∀ i, (w.alloc (.cells kz.toArray t)).cell? ⟨w.heap.size, i, none⟩ = kz.toArray[i]? := fun i => cell_of_row (w.alloc (.cells kz.toArray t)) w.heap.size i _ t (0, 0) (heap_alloc_last w _)
  refine ⟨by rw [e, List.getElem?_toArray, kz, List.getElem?_cons_zero], Ar.mk fun i hi => ⟨?_, World.frozen?_alloc_at _ _ _ _ rfl⟩⟩
  rw [List.length_replicate] at hi
  have hg : gb (List.replicate 240 (0 : Int)) i = 0 := by
    unfold gb
    rw [List.getD_eq_getElem?_getD, List.getElem?_replicate, if_pos hi]; rfl
  rw [e, List.getElem?_toArray, kz, Nat.add_comm 1 i, List.getElem?_cons_succ, List.getElem?_map, List.getElem?_replicate, if_pos hi, hg]
  rfl

section
variable {ops : Array Oper} {rest : List Oper} {o : Oper} {a : Act} {Q : Exit → Act → World → Prop}
/-- a new key gets a place -/
theorem box_lawK (w : World) (hg : o.guard = none) (x : Operand) (t : TypeId) (hop : o.op = Op.box t x) (hx : a.eval x = .agg kz.toArray)
    (hK : ∀ w', w'.cell? ⟨w.heap.size, 0, none⟩ = some (.bool true) → Ar w' w.heap.size 1 .u8 (List.replicate 240 0) → Below w.heap.size w w' → w.heap.size < w'.heap.size → wpList Try.prog ops Q rest (a.put o.dst (.pointer (some ⟨w.heap.size, 0, none⟩))) w') :
    wpList Try.prog ops Q (o :: rest) a w := by
  refine wpList_plain hg fun K hK' => ?_
  have := hK _ (kz_at w t).1 (kz_at w t).2 ((Below.refl _ _).alloc (Nat.le_refl _) _) (by simp)
  unfold Oper.wp
  simp [execOp, hop, hx, Instr.box, newVar, newRow, Value.cells, Result.andThen]
  exact hK' _ _ this
end

/-- 'copy(d, s)' of as many bytes as d has room for, into the middle of a row that begins at o0; what lies ahead stays -/
theorem step_copyO {ops : Array Oper} {o : Oper} {a : Act} {Q : Exit → Act → World → Prop} {K : Act → World → Prop} {E : Prop} (w : World) (hg : o.guard = none) (d : Option Tmp) (hd : o.dst = d) (x y : Operand) (hop : o.op = .call { callee := .builtin .copy, args := #[x, y], argTypes := #[22, 22] })
    (b o0 s n dc : Nat) (v : Value) (xs ys : List Int) (q : Nat) (hq : q = o0 + s) (hx : a.eval x = .slice (some ⟨b, q, none⟩) n dc) (hy : a.eval y = v) (hb : Byt w v ys) (hA : Ar w b o0 .u8 xs) (hn : ys.length = n) (hl : s + n ≤ xs.length)
    (hK : ∀ w', Ar w' b o0 .u8 (laid xs s ys) → Below b w w' → (∀ p, p < o0 → w'.cell? ⟨b, p, none⟩ = w.cell? ⟨b, p, none⟩) → K (a.put d (.int .i64 (n : Int))) w') :
    if Region.wanted o (yielded ops a.tmps) = true then Oper.wp Try.prog o a w K Q else E := by
  have hw : Region.wanted o (yielded ops a.tmps) = true := by simp [Region.wanted, hg]
  rw [if_pos hw]
  subst hd
  subst hq
  obtain ⟨ao, cap, rfl, h1, h2, h3, h4, h5⟩ := hb
  have e : min ys.length n = n := by omega
  have hrun := run_copyG w b (o0 + s) n dc ao ys cap o.type h5 (by
    rw [e]
    intro j hj
    have := hA.2 (s + j) (by omega)
    rwa [← Nat.add_assoc] at this)
  rw [e, List.take_of_length_le (by omega)] at hrun
  unfold Oper.wp execOp
  simp only [hop, resolve, invoke, builtin, Sem.run_bind, Sem.run_pure, Result.andThen_ok, List.map_toArray, List.map_cons, List.map_nil, hx, hy, hrun]
  refine hK _ (hA.lay s ys (by omega)) (below_cells _ (Nat.le_refl _) _ _ (Below.refl _ _)) fun p hp => ?_
  exact World.cell?_setCells_out _ _ _ _ _ (fun _ _ => by left; show p < o0 + s; omega)

set_option linter.unusedSimpArgs false in
set_option maxRecDepth 20000 in
set_option maxHeartbeats 4000000 in
theorem new_any (v : Value) (key : List Int) (w : World) (hv : Byt w v key) (hl : key.length = 32) :
    Calls Try.prog 28 #[v] w fun e w' => ∃ kb, e = .returned (.tuple #[.pointer (some ⟨kb, 0, none⟩), .int .i64 0]) ∧ KeyA w' kb key ∧ w.heap.size ≤ kb ∧ Below w.heap.size w w' := by
  have ha := hv.all
  have HE : Hid (Calls Try.prog 50 #[v] w fun e w' => ∃ g, e = .returned (.tuple #[.slice (some ⟨g, 0, none⟩) 60 60, .int .i64 0]) ∧ Ar w' g 0 .u32 (prw key 60) ∧ w.heap.size ≤ g ∧ Below w.heap.size w w') := exp_any v key w hv hl
  have HG : Hid (∀ k, k < 60 → ∀ w0, Calls Try.prog 51 #[.int .u64 (wn key k : Int), .int .i64 4] w0 fun e w' => ∃ v, e = .returned v ∧ Byt w' v (wd key k) ∧ Below w0.heap.size w0 w') := fun k hk w0 => by
    have h1 := wn_lt key hl ha k
    have := big_any (wn key k : Int) 4 w0 (by omega)
    rw [show clamp 4 8 = 4 by decide, wn, be4n _ (wd_wd key hl ha k)] at this
    exact this
  have HW4 : Hid (∀ k, (wd key k).length = 4) := fun k => (wd_wd key hl ha k).1
  have HWL : Hid (∀ k, wn key k < 4294967296) := wn_lt key hl ha
  have HF : Hid (∀ k, k < 60 → laid (filled (rks key) (4 * k)) (4 * k) (wd key k) = filled (rks key) (4 * (k + 1))) := fun k hk => by
    rw [← rks_cut key hl ha k hk]; exact filled_cut _ _ (by rw [rks_len]; omega)
  have HF0 : Hid (filled (rks key) 0 = List.replicate 240 0 ∧ filled (rks key) 240 = rks key) := ⟨by rw [filled_zero, rks_len], by have := filled_end (rks key); rwa [rks_len] at this⟩
  obtain ⟨ao, ca, rfl, -, -, -, -, -⟩ := hv
  clear hl ha
  go_enter Try.func28, Try.ntmps28
  go_wp2_with (first
    | (go_at_call 50; refine (HE.out).mono ?_; rintro e w1 ⟨g, rfl, A1, L1, B1⟩; have HA1 : Hid (Ar w1 g 0 .u32 (prw key 60)) := A1; have lg : g < w1.heap.size := A1.lt (by rw [prw_len]; omega); clear A1)
    | (have q1 := lg; refine build_law _ rfl 82 _ rfl (.agg kz.toArray) (by kernel_rfl) ?_)
    | (have q1 := lg; refine box_lawK _ rfl (.tmp 17) 82 rfl rfl ?_; intro w2 C2 A2 B2 s2; have HC2 : Hid (w2.cell? ⟨w1.heap.size, 0, none⟩ = some (.bool true)) := C2; have HA2 : Hid (Ar w2 w1.heap.size 1 .u8 (List.replicate 240 0)) := A2; clear C2 A2))
  have D1 : Hid (Ar w2 g 0 .u32 (prw key 60)) := HA1.out.below B2 lg
  have z1 := B1.size
  generalize hkb : w1.heap.size = kb at *
  go_loopw [21] (fun i wr => ∃ k : Nat, k ≤ 60 ∧ i = .int .i64 k ∧ wr.cell? ⟨kb, 0, none⟩ = some (.bool true) ∧ Ar wr kb 1 .u8 (filled (rks key) (4 * k)) ∧ Below kb w1 wr ∧ kb < wr.heap.size) (fun i _ => 60 - (intOf i).toNat)
  case atStart => exact ⟨0, Nat.zero_le _, rfl, HC2.out, by rw [Nat.mul_zero, HF0.out.1]; exact HA2.out, B2, s2⟩
  case round =>
    obtain ⟨k, hk, rfl, hC, hA, hB, hS⟩ := hrel
    have k0 : (0 : Int) ≤ (k : Int) := by omega
    have q1 : IntKind.i64.wrap (k : Int) = k := by rw [IntKind.wrap_i64]; omega
    by_cases hlt : k < 60
    · have k1 : (k : Int) < 60 := by omega
      have c1 := (HA1.out.below hB lg).cell0 k (by rw [prw_len]; omega)
      rw [gb_prw _ _ _ hlt, if_pos hlt] at c1
      have HGk := HG.out k hlt
      have W4 : Hid ((wd key k).length = 4) := HW4.out k
      have u1 : IntKind.u64.wrap (wn key k : Int) = (wn key k : Int) := by have := HWL.out k; rw [IntKind.wrap_u64]; omega
      have FC : Hid (laid (filled (rks key) (4 * k)) (4 * k) (wd key k) = filled (rks key) (4 * (k + 1))) := HF.out k hlt
      have HGK : Hid (∀ w0, Calls Try.prog 51 #[.int .u64 (wn key k : Int), .int .i64 4] w0 fun e w' => ∃ v, e = .returned v ∧ Byt w' v (wd key k) ∧ Below w0.heap.size w0 w') := HGk
      obtain ⟨kq, hkq⟩ : ∃ q, q = k / 4 := ⟨_, rfl⟩
      obtain ⟨kr, hkr⟩ : ∃ r, r = k % 4 := ⟨_, rfl⟩
      have d1 : (k : Int).tdiv 4 = (kq : Int) := by rw [Int.tdiv_eq_ediv_of_nonneg (by omega)]; omega
      have d2 : (k : Int).tmod 4 = (kr : Int) := by rw [Int.tmod_eq_emod_of_nonneg (by omega)]; omega
      have d3 : IntKind.i64.wrap (kq : Int) = kq := by rw [IntKind.wrap_i64]; omega
      have d4 : IntKind.i64.wrap (kr : Int) = kr := by rw [IntKind.wrap_i64]; omega
      have d5 : (0 : Int) ≤ (kq : Int) := by omega
      have d6 : (kq : Int) < 15 := by omega
      have d7 : (0 : Int) ≤ (kr : Int) := by omega
      have d8 : (kr : Int) < 4 := by omega
      have HQ : Hid (1 + kq * 16 + kr * 4 = 1 + 4 * k) := by show _ = _; omega
      have HC : Hid (wr.cell? ⟨kb, 0, none⟩ = some (.bool true)) := hC
      have HA : Hid (Ar wr kb 1 .u8 (filled (rks key) (4 * k))) := hA
      have HB : Hid (Below kb w1 wr) := hB
      clear hC hA hB HGk hkq hkr
      generalize wd key k = xs at *
      generalize wn key k = x at *
      go_wp2
      refine wp_region_any (by kernel_rfl) ?_
      change wpAny _ _ _ _ _ _ _ (World.drew _)
      refine take_lawG 0 (some 26) (.pointer (some ⟨kb, 0, none⟩)) rfl rfl (by kernel_rfl) (by kernel_rfl) (by kernel_rfl) (fun _ _ _ h => h) (Or.inl ⟨by rfl, fun w' => by rfl⟩) ?_
      simp only [Act.put, List.setIfInBounds_toArray, List.set_cons_zero, List.set_cons_succ]
      refine take_lawG 1 (some 27) (.int .i64 (k : Int)) rfl rfl (by kernel_rfl) (by kernel_rfl) (by kernel_rfl) (fun _ _ _ h => h) (Or.inl ⟨by rfl, fun w' => by rfl⟩) ?_
      simp only [Act.put, List.setIfInBounds_toArray, List.set_cons_zero, List.set_cons_succ]
      refine take_lawG 2 (some 28) (.int .i64 (kq : Int)) rfl rfl (by kernel_rfl) (by kernel_rfl) (by kernel_rfl) (fun _ _ _ h => h) (Or.inl ⟨by rfl, fun w' => by go_simp⟩) ?_
      simp only [Act.put, List.setIfInBounds_toArray, List.set_cons_zero, List.set_cons_succ]
      refine take_lawG 3 (some 29) (.int .i64 (k : Int)) rfl rfl (by kernel_rfl) (by kernel_rfl) (by kernel_rfl) (fun _ _ _ h => h) (Or.inl ⟨by rfl, fun w' => by rfl⟩) ?_
      simp only [Act.put, List.setIfInBounds_toArray, List.set_cons_zero, List.set_cons_succ]
      refine take_lawG 4 (some 30) (.int .i64 (kr : Int)) rfl rfl (by kernel_rfl) (by kernel_rfl) (by kernel_rfl) (fun _ _ _ h => h) (Or.inl ⟨by rfl, fun w' => by go_simp⟩) ?_
      simp only [Act.put, List.setIfInBounds_toArray, List.set_cons_zero, List.set_cons_succ]
      refine take_lawG 5 (some 31) (.pointer (some ⟨kb, 0, none⟩)) rfl rfl (by kernel_rfl) (by kernel_rfl) (by kernel_rfl) (fun _ _ _ h => h) (Or.inl ⟨by rfl, fun w' => by rfl⟩) ?_
      simp only [Act.put, List.setIfInBounds_toArray, List.set_cons_zero, List.set_cons_succ]
      refine take_lawG 6 (some 32) (.pointer (some ⟨kb, 1, none⟩)) rfl rfl (by kernel_rfl) (by kernel_rfl) (by kernel_rfl) (fun _ _ _ h => h) (Or.inl ⟨by rfl, fun w' => by rfl⟩) ?_
      simp only [Act.put, List.setIfInBounds_toArray, List.set_cons_zero, List.set_cons_succ]
      refine take_lawG 7 (some 33) (.pointer (some ⟨kb, 1 + kq * 16, none⟩)) rfl rfl (by kernel_rfl) (by kernel_rfl) (by kernel_rfl) (fun _ _ _ h => h) (Or.inl ⟨by rfl, fun w' => by go_simp⟩) ?_
      simp only [Act.put, List.setIfInBounds_toArray, List.set_cons_zero, List.set_cons_succ]
      refine take_lawG 8 (some 34) (.pointer (some ⟨kb, 1 + kq * 16 + kr * 4, none⟩)) rfl rfl (by kernel_rfl) (by kernel_rfl) (by kernel_rfl) (fun _ _ _ h => h) (Or.inl ⟨by rfl, fun w' => by go_simp⟩) ?_
      simp only [Act.put, List.setIfInBounds_toArray, List.set_cons_zero, List.set_cons_succ]
      refine take_lawG 9 (some 35) (.slice (some ⟨kb, 1 + kq * 16 + kr * 4, none⟩) 4 4) rfl rfl (by kernel_rfl) (by kernel_rfl) (by kernel_rfl) (fun _ _ _ h => h) (Or.inl ⟨by rfl, fun w' => by go_simp⟩) ?_
      simp only [Act.put, List.setIfInBounds_toArray, List.set_cons_zero, List.set_cons_succ]
      refine take_lawG 10 (some 36) (.int .u32 (x : Int)) rfl rfl (by kernel_rfl) (by kernel_rfl) (by kernel_rfl) (fun _ _ _ h => h) (Or.inl ⟨by rfl, fun w' => by rfl⟩) ?_
      simp only [Act.put, List.setIfInBounds_toArray, List.set_cons_zero, List.set_cons_succ]
      refine take_lawG 11 (some 37) (.int .u64 (x : Int)) rfl rfl (by kernel_rfl) (by kernel_rfl) (by kernel_rfl) (fun _ _ _ h => h) (Or.inl ⟨by rfl, fun w' => by go_simp⟩) ?_
      simp only [Act.put, List.setIfInBounds_toArray, List.set_cons_zero, List.set_cons_succ]
      refine wpAny_ready (rs := [12]) (by kernel_rfl) (by simp) ?_
      refine AllReady.cons rfl (fun K hK => ?_) AllReady.nil
      refine step_callG _ rfl (some 38) rfl 51 #[.tmp 37, .const (.int .i64 4)] #[25, 3] rfl (fun q w' => by rfl) #[.int .u64 (x : Int), .int .i64 4] (by simp only [List.map_toArray, List.map_cons, List.map_nil]; rfl) _ (HGK.out _) fun v3 w3 h3 => hK _ _ ?_
      obtain ⟨Y3, B3⟩ := h3
      have hS' : kb < wr.drew.heap.size := hS
      have HC3 : w3.cell? ⟨kb, 0, none⟩ = some (.bool true) := by
        rw [World.cell?_of_block (w := wr.drew) (w' := w3) (a := ⟨kb, 0, none⟩) (B3.block kb hS')]; exact HC.out
      have HA3 : Ar w3 kb 1 .u8 (filled (rks key) (4 * k)) := (HA.out.drewN 1).below B3 hS'
      have HB3 : Below kb w1 w3 := (below_drewN HB.out 1).trans (B3.mono (by have : kb < wr.heap.size := hS; show kb ≤ wr.heap.size; omega))
      simp only [Act.put, List.setIfInBounds_toArray, List.set_cons_zero, List.set_cons_succ]
      refine wpAny_ready (rs := [13]) (by kernel_rfl) (by simp) ?_
      refine AllReady.cons rfl (fun K hK => ?_) AllReady.nil
      refine step_copyO _ rfl (some 39) rfl (.tmp 35) (.tmp 38) rfl kb 1 (4 * k) 4 4 _ _ xs _ HQ.out rfl rfl Y3 HA3 W4.out (by rw [filled_len, rks_len]; omega) fun w4 A4 B4 C4 => hK _ _ ?_
      rw [FC.out] at A4
      have HA4 : Hid (Ar w4 kb 1 .u8 (filled (rks key) (4 * (k + 1)))) := A4
      have HC4 : Hid (w4.cell? ⟨kb, 0, none⟩ = some (.bool true)) := by show _ = _; rw [C4 0 (by omega)]; exact HC3
      have HB4 : Hid (Below kb w1 w4) := HB3.trans B4
      have hS4 : kb < w4.heap.size := A4.lt (by rw [filled_len, rks_len]; omega)
      clear A4 B4 C4 HC3 HA3 HB3 Y3 B3
      simp only [Act.put, List.setIfInBounds_toArray, List.set_cons_zero, List.set_cons_succ]
      refine wpAny_done (by kernel_rfl) ?_ _
      go_wp2
      go_roundw
      case rel => exact ⟨k + 1, by omega, by go_num, HC4.out, HA4.out, HB4.out, hS4⟩
      case measure => simp [intOf]; omega
    · have hk60 : k = 60 := by omega
      subst hk60
      rw [show 4 * 60 = 240 from rfl, HF0.out.2] at hA
      go_wp2
      go_ret2
      exact ⟨kb, rfl, ⟨hC, hA⟩, by omega, B1.trans (hB.mono (by omega))⟩

set_option maxHeartbeats 1000000 in
theorem exp_no (v : Value) (xs : List Int) (w : World) (hv : Byt w v xs) (hl : ¬ xs.length = 32) :
    Calls Try.prog 50 #[v] w fun e w' => e = .returned (.tuple #[.slice none 0 0, .int .i64 2]) ∧ w' = w := by
  obtain ⟨ao, ca, rfl, ha1, ha2, -, -, -⟩ := hv
  have h1 : ¬ ((xs.length : Int) = 32) := by omega
  clear hl
  generalize xs.length = n at *
  go_enter Try.func50, Try.ntmps50
  go_wp2
  go_ret2
  exact ⟨rfl, rfl⟩
set_option maxHeartbeats 1000000 in
theorem new_no (v : Value) (xs : List Int) (w : World) (hv : Byt w v xs) (hl : ¬ xs.length = 32) :
    Calls Try.prog 28 #[v] w fun e w' => e = .returned (.tuple #[.pointer none, .int .i64 2]) ∧ w' = w := by
  have H : Hid (Calls Try.prog 50 #[v] w fun e w' => e = .returned (.tuple #[.slice none 0 0, .int .i64 2]) ∧ w' = w) := exp_no v xs w hv hl
  go_enter Try.func28, Try.ntmps28
  go_wp2_with (go_at_call 50; refine H.out.mono ?_; rintro e w1 ⟨rfl, hw⟩; obtain rfl := hw.symm)
  go_ret2
  exact ⟨rfl, rfl⟩
end Go.Proofs.Ytifepmdhbhdjpaa

/- What aes' list answers. No claim of its own. -/
namespace Go.Proofs.Ytifepmdhbhdjpaa
open Go.RowKit
set_option maxRecDepth 20000

set_option linter.unusedSimpArgs false in
set_option maxRecDepth 20000 in
set_option maxHeartbeats 2000000 in
theorem list_any (xs : List Int) (w : World) (hl : xs.length = 16) (hx : AllB xs) :
    Calls Try.prog 76 #[.agg (ints .u8 xs)] w fun e w' => ∃ g, e = .returned (.slice (some ⟨g, 0, none⟩) 16 16) ∧ Ar w' g 0 .u8 xs ∧ w.heap.size ≤ g ∧ Below w.heap.size w w' := by
  have HX : Hid (AllB xs) := hx
  have HL : Hid (xs.length = 16) := hl
  have HF : Hid (filled xs 0 = z16 ∧ filled xs 16 = xs) := filled16 xs hl
  clear hl hx
  go_enter Try.func76, Try.ntmps76
  go_wp2_with (first
    | (refine box_lawF _ rfl (.tmp 0) 79 rfl .u8 xs rfl ?_; intro w1 A1 B1 s1; have HA1 : Hid (Ar w1 w.heap.size 0 .u8 xs) := A1; clear A1)
    | (at_make; refine make_law _ rfl _ _ rfl w1.heap.size (Nat.le_refl _) 16 16 rfl rfl rfl (by omega) ?_; intro w2 hown B2 s2; have HO2 : Hid (Ar w2 w1.heap.size 0 .u8 z16) := hown.arG; clear hown)
    | (have q2 := s2; refine load_lawN _ rfl (.tmp 1) 79 rfl .u8 xs w.heap.size 0 rfl (HA1.out.below B2 s1) 4 16 73 Try.underlying79 i_st HL.out ?_))
  have o1 : w.heap.size < w1.heap.size := s1
  have o2 : w1.heap.size < w2.heap.size := s2
  have BW : Below w.heap.size w w1 := B1
  generalize w1.heap.size = g3 at *
  go_loopw [8] (fun i wr => ∃ k : Nat, k ≤ 4 ∧ i = .int .i64 k ∧ Ar wr g3 0 .u8 (filled xs (4 * k)) ∧ Below g3 w1 wr ∧ g3 < wr.heap.size) (fun i _ => 4 - (intOf i).toNat)
  case atStart => exact ⟨0, Nat.zero_le _, rfl, by rw [Nat.mul_zero, HF.out.1]; exact HO2.out, B2, o2⟩
  case round =>
    obtain ⟨k, hk, rfl, hA, hB, hS⟩ := hrel
    have k0 : (0 : Int) ≤ (k : Int) := by omega
    have q1 : IntKind.i64.wrap (k : Int) = k := by rw [IntKind.wrap_i64]; omega
    by_cases hlt : k < 4
    · have k1 : (k : Int) < 4 := by omega
      have HCut : Hid (∀ w0, Calls Try.prog 65 #[.slice (some ⟨g3, 0, none⟩) 16 16, .int .i64 k] w0 fun e w' => e = .returned (.slice (some ⟨g3, 0 + 4 * k, none⟩) 4 4) ∧ w' = w0) := fun w0 => cut_any g3 0 16 16 k w0 (by omega) (by omega) (by omega)
      rw [Nat.zero_add] at HCut
      have HA : Hid (Ar wr g3 0 .u8 (filled xs (4 * k))) := hA
      have HB : Hid (Below g3 w1 wr) := hB
      have CL : Hid ((cut4 xs k).length = 4) := cut4_len xs k (by rw [HL.out]; omega)
      have CA : Hid (AllB (cut4 xs k)) := cut4_all xs k HX.out
      have FC : Hid (laid (filled xs (4 * k)) (4 * k) (cut4 xs k) = filled xs (4 * (k + 1))) := filled_cut xs k (by rw [HL.out]; omega)
      have HQ : Hid (cut4 xs k = cut4 xs k) := rfl
      obtain ⟨cs, hcs⟩ : ∃ cs, cs = cut4 xs k := ⟨_, rfl⟩
      have HCS : Hid (cs = cut4 xs k) := hcs
      rw [← hcs] at CL CA FC
      clear hA hB hcs HQ
      go_wp2_with (first
        | (refine idx_st _ rfl (.tmp 7) (.tmp 8) rfl xs _ k rfl rfl rfl hlt cs HCS.out ?_)
        | (refine new_lawF _ rfl 73 rfl .u8 z4 z_arr4 ?_; intro w3 A3 B3 s3; have HA3 : Hid (Ar w3 wr.heap.size 0 .u8 z4) := A3; clear A3)
        | (have q3 := s3; refine store_lawF _ rfl (.tmp 5) (.tmp 11) 73 rfl .u8 z4 cs wr.heap.size rfl rfl HA3.out 4 i_arr4 rfl CL.out ?_; intro w4 A4 B4; have HA4 : Hid (Ar w4 wr.heap.size 0 .u8 cs) := A4; clear A4))
      refine wp_region_any (by kernel_rfl) ?_
      change wpAny _ _ _ _ _ _ _ (World.drew _)
      refine wpAny_quiet_then (C := fun w' => ∃ n, w' = w4.drewN n) 0 4 1 _ (by kernel_rfl) rfl (by kernel_rfl) (by kernel_rfl) ⟨1, rfl⟩ ?_
      simp only [List.take_succ_cons, List.take_zero, List.drop_zero]
      repeat (quiet_step (with_reducible exact Calls.quiet_of_same (HCut.out _)))
      refine wpQuiet_nil ?_
      rintro f _ ⟨nq, rfl⟩
      have B34 : Below wr.heap.size wr w4 := B3.trans (B4.mono (by omega))
      refine wpAny_ready (rs := [4]) (by kernel_rfl) (by simp) ?_
      refine AllReady.cons rfl (fun K hK => ?_) AllReady.nil
      refine step_copyG _ rfl (some 16) rfl (.tmp 14) (.tmp 15) rfl g3 (4 * k) 4 4 _ _ _ rfl rfl ((HA4.out.drewN nq).bytG CA.out 4 4 CL.out (by omega) (by omega)) ((HA.out.below B34 hS).drewN nq) CL.out (by rw [filled_len, HL.out]; omega) fun w5 A5 B5 => hK _ _ ?_
      rw [FC.out] at A5
      have HA5 : Hid (Ar w5 g3 0 .u8 (filled xs (4 * (k + 1)))) := A5
      have HB5 : Hid (Below g3 w1 w5) := (below_drewN (HB.out.trans (B34.mono (by omega))) nq).trans B5
      have hS5 : g3 < w5.heap.size := by have h1 := B34.size; have h2 : w4.heap.size ≤ w5.heap.size := B5.size; omega
      clear A5 B5
      simp only [Act.put, List.setIfInBounds_toArray, List.set_cons_zero, List.set_cons_succ]
      refine wpAny_done (by kernel_rfl) ?_ _
      go_wp2
      go_roundw
      case rel => exact ⟨k + 1, by omega, by go_num, HA5.out, HB5.out, hS5⟩
      case measure => simp [intOf]; omega
    · have hk4 : k = 4 := by omega
      subst hk4
      rw [show 4 * 4 = 16 from rfl, HF.out.2] at hA
      go_wp2
      go_ret
      exact ⟨g3, rfl, hA, by omega, BW.trans (hB.mono (by omega))⟩
end Go.Proofs.Ytifepmdhbhdjpaa

/- What aes' xored answers. No claim of its own. -/
namespace Go.Proofs.Ytifepmdhbhdjpaa
open Go.RowKit
set_option maxRecDepth 20000

/-- the first n bytes are xored -/
def prx (xs ys : List Int) (n : Nat) : List Int := (List.range 16).map fun t => if t < n then xr (gb xs t) (gb ys t) else gb xs t
theorem prx_len (xs ys : List Int) (n : Nat) : (prx xs ys n).length = 16 := by simp [prx]
theorem gb_prx (xs ys : List Int) (n t : Nat) (h : t < 16) : gb (prx xs ys n) t = if t < n then xr (gb xs t) (gb ys t) else gb xs t := range_gb _ _ _ h
theorem prx_zero (xs ys : List Int) (h : xs.length = 16) : prx xs ys 0 = xs := ext_gb (by rw [prx_len, h]) fun t ht => by
  rw [prx_len] at ht
  rw [gb_prx _ _ _ _ ht, if_neg (by omega)]
theorem prx_end (xs ys : List Int) (h : xs.length = 16) (h' : ys.length = 16) : prx xs ys 16 = xorl xs ys := ext_gb (by rw [prx_len, xorl_len _ _ (by omega), h]) fun t ht => by
  rw [prx_len] at ht
  rw [gb_prx _ _ _ _ ht, if_pos ht, xorl_gb _ _ (by omega) _ (by omega)]
theorem prx_set (xs ys : List Int) (n : Nat) : (prx xs ys n).set n (xr (gb xs n) (gb ys n)) = prx xs ys (n + 1) := ext_gb (by simp [prx]) fun t ht => by
  rw [List.length_set, prx_len] at ht
  rw [gb_set _ _ _ _ (by rw [prx_len]; exact ht), gb_prx _ _ _ _ ht, gb_prx _ _ _ _ ht]
  by_cases e : n = t
  · subst e; simp
  · rw [if_neg e]
    by_cases h : t < n
    · rw [if_pos h, if_pos (by omega)]
    · rw [if_neg h, if_neg (by omega)]

set_option linter.unusedSimpArgs false in
set_option maxRecDepth 20000 in
set_option maxHeartbeats 4000000 in
theorem xored_any (xs ys : List Int) (w : World) (hx : Blk xs) (hy : Blk ys) :
    Calls Try.prog 70 #[.agg (ints .u8 xs), .agg (ints .u8 ys)] w fun e w' => e = .returned (.agg (ints .u8 (xorl xs ys))) ∧ Below w.heap.size w w' := by
  have HX : Hid (Blk xs) := hx
  have HY : Hid (Blk ys) := hy
  have HZ : Hid (prx xs ys 0 = xs ∧ prx xs ys 16 = xorl xs ys ∧ (xorl xs ys).length = 16) := ⟨prx_zero xs ys hx.1, prx_end xs ys hx.1 hy.1, (xorl_blk xs ys hx hy).1⟩
  generalize xorl xs ys = zs at *
  clear hx hy
  go_enter Try.func70, Try.ntmps70
  go_wp2_with (first
    | (refine box_lawF _ rfl (.tmp 0) 79 rfl .u8 xs rfl ?_; intro w1 A1 B1 s1; have HA1 : Hid (Ar w1 w.heap.size 0 .u8 xs) := A1; clear A1)
    | (refine box_lawF _ rfl (.tmp 1) 79 rfl .u8 ys rfl ?_; intro w2 A2 B2 s2; have HA2 : Hid (Ar w2 w1.heap.size 0 .u8 ys) := A2; clear A2)
    | (have q2 := s2; refine new_lawF _ rfl 79 rfl .u8 z16 z_st ?_; intro w3 A3 B3 s3; have HA3 : Hid (Ar w3 w2.heap.size 0 .u8 z16) := A3; clear A3)
    | (have q3 := s3; refine load_lawN _ rfl (.tmp 3) 79 rfl .u8 ys w1.heap.size 0 rfl (HA2.out.below B3 s2) 4 16 73 Try.underlying79 i_st HY.out.1 ?_))
  have D1 : Hid (Ar w3 w.heap.size 0 .u8 xs) := (HA1.out.below B2 s1).below B3 (by omega)
  have BW : Below w.heap.size w w3 := (B1.trans (B2.mono (by omega))).trans (B3.mono (by omega))
  have o2 : w2.heap.size < w3.heap.size := s3
  have o1 : w.heap.size < w2.heap.size := by omega
  generalize hg0 : w.heap.size = g0 at *
  generalize w2.heap.size = g2 at *
  generalize w1.heap.size = g1 at *
  go_loopw [10] (fun i wr => ∃ k : Nat, k ≤ 4 ∧ i = .int .i64 k ∧ Ar wr g0 0 .u8 (prx xs ys (4 * k)) ∧ Ar wr g2 0 .u8 z16 ∧ Below g0 w wr ∧ g2 < wr.heap.size) (fun i _ => 4 - (intOf i).toNat)
  case atStart => exact ⟨0, Nat.zero_le _, rfl, by rw [Nat.mul_zero, HZ.out.1]; exact D1.out, HA3.out, BW, o2⟩
  case round =>
    obtain ⟨k, hk, rfl, hA, hR, hB, hS⟩ := hrel
    obtain ⟨wa, rfl⟩ : ∃ wx, wx = wr := ⟨_, rfl⟩
    have k0 : (0 : Int) ≤ (k : Int) := by omega
    have q1 : IntKind.i64.wrap (k : Int) = k := by rw [IntKind.wrap_i64]; omega
    have HA : Hid (Ar wa g0 0 .u8 (prx xs ys (4 * k))) := hA
    have HR : Hid (Ar wa g2 0 .u8 z16) := hR
    have HB : Hid (Below g0 w wa) := hB
    clear hA hR hB
    by_cases hlt : k < 4
    · have k1 : (k : Int) < 4 := by omega
      have CL : Hid ((cut4 ys k).length = 4) := cut4_len ys k (by rw [HY.out.1]; omega)
      have CG : Hid (∀ i, i < 4 → gb (cut4 ys k) i = gb ys (4 * k + i)) := fun i hi => cut4_gb ys k i hi
      obtain ⟨cs, hcs⟩ : ∃ cs, cs = cut4 ys k := ⟨_, rfl⟩
      have HCS : Hid (cs = cut4 ys k) := hcs
      rw [← hcs] at CL CG
      clear hcs
      go_wp2_with (first
        | (refine idx_st _ rfl (.tmp 9) (.tmp 10) rfl ys _ k rfl rfl rfl hlt cs HCS.out ?_)
        | (refine new_lawF _ rfl 73 rfl .u8 z4 z_arr4 ?_; intro w4 A4 B4 s4; have HA4 : Hid (Ar w4 wa.heap.size 0 .u8 z4) := A4; clear A4)
        | (have q4 := s4; refine store_lawF _ rfl (.tmp 6) (.tmp 13) 73 rfl .u8 z4 cs wa.heap.size rfl rfl HA4.out 4 i_arr4 rfl CL.out ?_; intro w5 A5 B5; have HA5 : Hid (Ar w5 wa.heap.size 0 .u8 cs) := A5; clear A5)
        | (refine load_law _ rfl (.tmp 6) 73 rfl .u8 cs wa.heap.size 0 rfl HA5.out 4 5 Try.underlying73 i_arr4 CL.out ?_))
      have B45 : Below wa.heap.size wa w5 := B4.trans (B5.mono (by omega))
      have s5 : wa.heap.size ≤ w5.heap.size := B45.size
      have E1 : Hid (Ar w5 g0 0 .u8 (prx xs ys (4 * k + 0))) := HA.out.below B45 (by omega)
      have E2 : Hid (Ar w5 g2 0 .u8 z16) := HR.out.below B45 hS
      have E3 : Hid (Below g0 w w5) := HB.out.trans (B45.mono (by omega))
      have o5 : g2 < w5.heap.size := by omega
      go_loopw [15] (fun j wr => ∃ m : Nat, m ≤ 4 ∧ j = .int .i64 m ∧ Ar wr g0 0 .u8 (prx xs ys (4 * k + m)) ∧ Ar wr g2 0 .u8 z16 ∧ Below g0 w wr ∧ g2 < wr.heap.size) (fun j _ => 4 - (intOf j).toNat)
      case atStart => exact ⟨0, Nat.zero_le _, rfl, E1.out, E2.out, E3.out, o5⟩
      case round =>
        obtain ⟨m, hm, rfl, hA', hR', hB', hS'⟩ := hrel
        obtain ⟨wb, rfl⟩ : ∃ wx, wx = wr := ⟨_, rfl⟩
        have m0 : (0 : Int) ≤ (m : Int) := by omega
        have q2 : IntKind.i64.wrap (m : Int) = m := by rw [IntKind.wrap_i64]; omega
        clear HA HR HB E1 E2 E3
        by_cases hmt : m < 4
        · have m1 : (m : Int) < 4 := by omega
          have c0 := hA'.cell0 (4 * k + m) (by rw [prx_len]; omega)
          rw [gb_prx _ _ _ _ (by omega), if_neg (by omega), Nat.mul_comm 4 k] at c0
          have bx := HX.out.2 (k * 4 + m)
          have by_ := HY.out.2 (k * 4 + m)
          have hxr := xr_of _ _ bx by_
          have HS2 : Hid ((prx xs ys (4 * k + m)).set (4 * k + m) (xr (gb xs (k * 4 + m)) (gb ys (k * 4 + m))) = prx xs ys (4 * k + (m + 1))) := by
            show _ = _
            rw [Nat.mul_comm k 4]; exact prx_set xs ys (4 * k + m)
          have HG : Hid (gb ys (k * 4 + m) = gb cs m) := by show _ = _; rw [CG.out m hmt, Nat.mul_comm]
          have HA' : Hid (Ar wb g0 0 .u8 (prx xs ys (4 * k + m))) := hA'
          have HR' : Hid (Ar wb g2 0 .u8 z16) := hR'
          have HB' : Hid (Below g0 w wb) := hB'
          clear hA' hR' hB' bx by_
          generalize xr (gb xs (k * 4 + m)) (gb ys (k * 4 + m)) = z at *
          generalize gb xs (k * 4 + m) = x at *
          generalize gb ys (k * 4 + m) = y at *
          go_wp2_with (refine idx4 _ rfl (.tmp 14) (.tmp 15) rfl cs _ m rfl rfl rfl CL.out (by omega) y HG.out ?_)
          refine wp_region_any (by kernel_rfl) ?_
          change wpAny _ _ _ _ _ _ _ (World.drew _)
          refine wpAny_quiet_then (C := fun w' => ∃ n, w' = wb.drewN n) 0 9 1 _ (by kernel_rfl) rfl (by kernel_rfl) (by kernel_rfl) ⟨1, rfl⟩ ?_
          simp only [List.take_succ_cons, List.take_zero, List.drop_zero]
          repeat (quiet_step (fail))
          refine wpQuiet_nil ?_
          rintro f _ ⟨nq, rfl⟩
          have A1 := HA'.out.drewN nq
          have A2 := A1.set0 (4 * k + m) (by rw [prx_len]; omega) z
          rw [HS2.out] at A2
          have B2' : Below g0 w ((wb.drewN nq).setCell ⟨g0, 4 * k + m, none⟩ (.int .u8 z)) := (below_drewN HB'.out nq).setCell (Nat.le_refl _) _
          have R2' : Ar ((wb.drewN nq).setCell ⟨g0, 4 * k + m, none⟩ (.int .u8 z)) g2 0 .u8 z16 := (HR'.out.drewN nq).other (by show g2 ≠ g0; omega) _
          refine wpAny_ready (rs := [9]) (by kernel_rfl) (by simp) ?_
          refine AllReady.cons rfl (fun K hK => ?_) AllReady.nil
          refine step_set _ rfl none rfl (.tmp 27) (.tmp 25) 5 rfl .u8 z g0 (4 * k + m) (by rw [Nat.mul_comm 4 k]; rfl) (by first | rfl | (rw [← hxr]; rfl)) (by rw [A1.cell0 _ (by rw [prx_len]; omega)]; rfl) (A1.free0 _ (by rw [prx_len]; omega)) i_u8 (hK _ _ ?_)
          simp only [Act.put, List.setIfInBounds_toArray, List.set_cons_zero, List.set_cons_succ]
          have HA6 : Hid (Ar ((wb.drewN nq).setCell ⟨g0, 4 * k + m, none⟩ (.int .u8 z)) g0 0 .u8 (prx xs ys (4 * k + (m + 1)))) := A2
          have HB6 : Hid (Below g0 w ((wb.drewN nq).setCell ⟨g0, 4 * k + m, none⟩ (.int .u8 z))) := B2'
          have HR6 : Hid (Ar ((wb.drewN nq).setCell ⟨g0, 4 * k + m, none⟩ (.int .u8 z)) g2 0 .u8 z16) := R2'
          have hS6 : g2 < ((wb.drewN nq).setCell ⟨g0, 4 * k + m, none⟩ (.int .u8 z)).heap.size := R2'.lt (by rw [z16_len]; omega)
          clear A1 A2 B2' R2' c0
          generalize (wb.drewN nq).setCell ⟨g0, 4 * k + m, none⟩ (.int .u8 z) = w6 at *
          refine wpAny_done (by kernel_rfl) ?_ _
          go_wp2
          go_roundw
          case rel => exact ⟨m + 1, by omega, by go_num, HA6.out, HR6.out, HB6.out, hS6⟩
          case measure => simp [intOf]; omega
        · have hm4 : m = 4 := by omega
          subst hm4
          have HA6 : Hid (Ar wb g0 0 .u8 (prx xs ys (4 * (k + 1)))) := by show Ar _ _ _ _ _; rw [show 4 * (k + 1) = 4 * k + 4 by omega]; exact hA'
          have HR6 : Hid (Ar wb g2 0 .u8 z16) := hR'
          have HB6 : Hid (Below g0 w wb) := hB'
          clear hA' hR' hB'
          go_wp2
          go_roundw
          case rel => exact ⟨k + 1, by omega, by go_num, HA6.out, HR6.out, HB6.out, hS'⟩
          case measure => simp [intOf]; omega
    · have hk4 : k = 4 := by omega
      subst hk4
      have HA2 : Hid (Ar wa g0 0 .u8 zs) := by have := HA.out; rw [show 4 * 4 = 16 from rfl, HZ.out.2.1] at this; exact this
      clear HA
      go_wp2_with (first
        | (refine load_lawN _ rfl (.tmp 2) 79 rfl .u8 zs g0 0 rfl HA2.out 4 16 73 Try.underlying79 i_st HZ.out.2.2 ?_)
        | (refine store_lawF _ rfl (.tmp 4) (.tmp 30) 79 rfl .u8 z16 zs g2 rfl rfl HR.out 16 i_st z16_len HZ.out.2.2 ?_; intro w7 A7 B7))
      refine bodyPost_ret (v := .agg (ints .u8 zs)) (results_arN rfl _ _ g2 0 .u8 zs rfl A7 4 16 73 Try.underlying79 i_st HZ.out.2.2) rfl ⟨rfl, ?_⟩
      rw [hg0]
      exact HB.out.trans (B7.mono (by omega))
end Go.Proofs.Ytifepmdhbhdjpaa

/- What aes' shifted, shiftedList, Shift and Unshift answer. No claim of its own. -/
namespace Go.Proofs.Ytifepmdhbhdjpaa
open Go.RowKit
set_option maxRecDepth 20000

/-- the first t bytes are there -/
def prs (b : List Int) (n t : Nat) : List Int := (List.range 16).map fun i => if i < t then gb b (shi i n) else 0
theorem prs_len (b : List Int) (n t : Nat) : (prs b n t).length = 16 := by simp [prs]
theorem gb_prs (b : List Int) (n t i : Nat) (h : i < 16) : gb (prs b n t) i = if i < t then gb b (shi i n) else 0 := range_gb _ _ _ h
theorem prs_zero (b : List Int) (n : Nat) : prs b n 0 = z16 := rfl
theorem prs_end (b : List Int) (n : Nat) : prs b n 16 = shl16 b n := ext_gb (by rw [prs_len, shl16_len]) fun t ht => by
  rw [prs_len] at ht
  rw [gb_prs _ _ _ _ ht, if_pos ht, shl16_gb _ _ _ ht]
theorem prs_set (b : List Int) (n t : Nat) : (prs b n t).set t (gb b (shi t n)) = prs b n (t + 1) := ext_gb (by simp [prs]) fun i hi => by
  rw [List.length_set, prs_len] at hi
  rw [gb_set _ _ _ _ (by rw [prs_len]; exact hi), gb_prs _ _ _ _ hi, gb_prs _ _ _ _ hi]
  by_cases e : t = i
  · subst e; simp
  · rw [if_neg e]
    by_cases h : i < t
    · rw [if_pos h, if_pos (by omega)]
    · rw [if_neg h, if_neg (by omega)]
/-- how a step tells a shift -/
def Stp (sg : Int) (n : Nat) : Prop := ∀ c i : Nat, c < 4 → i < 4 → -3 ≤ sg * (i : Int) ∧ sg * (i : Int) ≤ 3 ∧ ((c : Int) + 4 + sg * (i : Int)) % 4 = (((c + n * i) % 4 : Nat) : Int)
theorem stp_one : Stp 1 1 := fun c i hc hi => by omega
theorem stp_neg : Stp (-1) 3 := fun c i hc hi => by omega

set_option linter.unusedSimpArgs false in
set_option maxRecDepth 20000 in
set_option maxHeartbeats 4000000 in
theorem shifted_any (xs : List Int) (sg : Int) (n : Nat) (w : World) (hx : Blk xs) (hst : Stp sg n) :
    Calls Try.prog 73 #[.agg (ints .u8 xs), .int .i64 sg] w fun e w' => e = .returned (.agg (ints .u8 (shl16 xs n))) ∧ Below w.heap.size w w' := by
  have HX : Hid (Blk xs) := hx
  have HST : Hid (Stp sg n) := hst
  have HZ : Hid (prs xs n 0 = z16 ∧ prs xs n 16 = shl16 xs n ∧ (shl16 xs n).length = 16) := ⟨prs_zero xs n, prs_end xs n, shl16_len xs n⟩
  generalize shl16 xs n = zs at *
  clear hx hst
  go_enter Try.func73, Try.ntmps73
  go_wp2_with (first
    | (refine box_lawF _ rfl (.tmp 0) 79 rfl .u8 xs rfl ?_; intro w1 A1 B1 s1; have HA1 : Hid (Ar w1 w.heap.size 0 .u8 xs) := A1; clear A1)
    | (have q2 := s2; refine new_lawF _ rfl 79 rfl .u8 z16 z_st ?_; intro w3 A3 B3 s3; have HA3 : Hid (Ar w3 w2.heap.size 0 .u8 z16) := A3; clear A3)
    | (have q1 := s1; refine new_lawF _ rfl 79 rfl .u8 z16 z_st ?_; intro w2 A2 B2 s2; have HA2 : Hid (Ar w2 w1.heap.size 0 .u8 z16) := A2; clear A2))
  have D1 : Hid (Ar w2 w.heap.size 0 .u8 xs) := HA1.out.below B2 s1
  have BW : Below w.heap.size w w2 := B1.trans (B2.mono (by omega))
  have o1 : w.heap.size < w2.heap.size := by omega
  have o2 : w1.heap.size < w2.heap.size := s2
  generalize hg0 : w.heap.size = g0 at *
  generalize w2.heap.size = g2 at *
  generalize w1.heap.size = g1 at *
  go_loopw [8] (fun i wr => ∃ k : Nat, k ≤ 4 ∧ i = .int .i64 k ∧ Ar wr g2 0 .u8 (prs xs n (4 * k)) ∧ Below g2 w2 wr) (fun i _ => 4 - (intOf i).toNat)
  case atStart => exact ⟨0, Nat.zero_le _, rfl, by rw [Nat.mul_zero, HZ.out.1]; exact HA3.out, B3⟩
  case round =>
    obtain ⟨k, hk, rfl, hA, hB⟩ := hrel
    obtain ⟨wa, rfl⟩ : ∃ wx, wx = wr := ⟨_, rfl⟩
    have k0 : (0 : Int) ≤ (k : Int) := by omega
    have q1 : IntKind.i64.wrap (k : Int) = k := by rw [IntKind.wrap_i64]; omega
    have HA : Hid (Ar wa g2 0 .u8 (prs xs n (4 * k))) := hA
    have HB : Hid (Below g2 w2 wa) := hB
    clear hA hB
    by_cases hlt : k < 4
    · have k1 : (k : Int) < 4 := by omega
      go_wp2
      go_loopw [11] (fun j wr => ∃ m : Nat, m ≤ 4 ∧ j = .int .i64 m ∧ Ar wr g2 0 .u8 (prs xs n (4 * k + m)) ∧ Below g2 w2 wr) (fun j _ => 4 - (intOf j).toNat)
      case atStart => exact ⟨0, Nat.zero_le _, rfl, HA.out, HB.out⟩
      case round =>
        obtain ⟨m, hm, rfl, hA', hB'⟩ := hrel
        obtain ⟨wb, rfl⟩ : ∃ wx, wx = wr := ⟨_, rfl⟩
        have m0 : (0 : Int) ≤ (m : Int) := by omega
        have q2 : IntKind.i64.wrap (m : Int) = m := by rw [IntKind.wrap_i64]; omega
        clear HA HB
        by_cases hmt : m < 4
        · have m1 : (m : Int) < 4 := by omega
          obtain ⟨t1, t2, t3⟩ := HST.out k m hlt hmt
          obtain ⟨p, hp⟩ : ∃ p, sg * (m : Int) = p := ⟨_, rfl⟩
          rw [hp] at t1 t2 t3
          obtain ⟨j, hj⟩ : ∃ j, j = (k + n * m) % 4 := ⟨_, rfl⟩
          have HJ : Hid (shi (4 * k + m) n = j * 4 + m) := by
            show _ = _
            unfold shi
            rw [show (4 * k + m) / 4 = k by omega, show (4 * k + m) % 4 = m by omega, ← hj, Nat.mul_comm]
          rw [← hj] at t3
          have j4 : j < 4 := by omega
          have j0 : (0 : Int) ≤ (j : Int) := by omega
          have j1 : (j : Int) < 4 := by omega
          have r1 : IntKind.i64.wrap p = p := by rw [IntKind.wrap_i64]; omega
          have r2 : IntKind.i64.wrap ((k : Int) + 4) = (k : Int) + 4 := by rw [IntKind.wrap_i64]; omega
          have r3 : IntKind.i64.wrap ((k : Int) + 4 + p) = (k : Int) + 4 + p := by rw [IntKind.wrap_i64]; omega
          have r4 : ((k : Int) + 4 + p).tmod 4 = (j : Int) := by rw [Int.tmod_eq_emod_of_nonneg (by omega)]; exact t3
          have r5 : IntKind.i64.wrap (j : Int) = j := by rw [IntKind.wrap_i64]; omega
          have c0 := (D1.out.below hB' o1).cell0 (j * 4 + m) (by rw [HX.out.1]; omega)
          have HS2 : Hid ((prs xs n (4 * k + m)).set (4 * k + m) (gb xs (j * 4 + m)) = prs xs n (4 * k + (m + 1))) := by
            show _ = _
            rw [← HJ.out]; exact prs_set xs n (4 * k + m)
          have HA' : Hid (Ar wb g2 0 .u8 (prs xs n (4 * k + m))) := hA'
          have HB' : Hid (Below g2 w2 wb) := hB'
          clear hA' hB' hj
          generalize gb xs (j * 4 + m) = x at *
          go_wp2
          refine wp_region_any (by kernel_rfl) ?_
          change wpAny _ _ _ _ _ _ _ (World.drew _)
          refine wpAny_quiet_then (C := fun w' => ∃ n, w' = wb.drewN n) 0 15 1 _ (by kernel_rfl) rfl (by kernel_rfl) (by kernel_rfl) ⟨1, rfl⟩ ?_
          simp only [List.take_succ_cons, List.take_zero, List.drop_zero]
          repeat (quiet_step (fail))
          refine wpQuiet_nil ?_
          rintro f _ ⟨nq, rfl⟩
          have A1 := HA'.out.drewN nq
          have A2 := A1.set0 (4 * k + m) (by rw [prs_len]; omega) x
          rw [HS2.out] at A2
          have B2' : Below g2 w2 ((wb.drewN nq).setCell ⟨g2, 4 * k + m, none⟩ (.int .u8 x)) := (below_drewN HB'.out nq).setCell (Nat.le_refl _) _
          refine wpAny_ready (rs := [15]) (by kernel_rfl) (by simp) ?_
          refine AllReady.cons rfl (fun K hK => ?_) AllReady.nil
          refine step_set _ rfl none rfl (.tmp 28) (.tmp 26) 5 rfl .u8 x g2 (4 * k + m) (by rw [Nat.mul_comm 4 k]; rfl) rfl (by rw [A1.cell0 _ (by rw [prs_len]; omega)]; rfl) (A1.free0 _ (by rw [prs_len]; omega)) i_u8 (hK _ _ ?_)
          simp only [Act.put, List.setIfInBounds_toArray, List.set_cons_zero, List.set_cons_succ]
          have HA6 : Hid (Ar ((wb.drewN nq).setCell ⟨g2, 4 * k + m, none⟩ (.int .u8 x)) g2 0 .u8 (prs xs n (4 * k + (m + 1)))) := A2
          have HB6 : Hid (Below g2 w2 ((wb.drewN nq).setCell ⟨g2, 4 * k + m, none⟩ (.int .u8 x))) := B2'
          clear A1 A2 B2' c0
          generalize (wb.drewN nq).setCell ⟨g2, 4 * k + m, none⟩ (.int .u8 x) = w6 at *
          refine wpAny_done (by kernel_rfl) ?_ _
          go_wp2
          go_roundw
          case rel => exact ⟨m + 1, by omega, by go_num, HA6.out, HB6.out⟩
          case measure => simp [intOf]; omega
        · have hm4 : m = 4 := by omega
          subst hm4
          have HA6 : Hid (Ar wb g2 0 .u8 (prs xs n (4 * (k + 1)))) := by show Ar _ _ _ _ _; rw [show 4 * (k + 1) = 4 * k + 4 by omega]; exact hA'
          have HB6 : Hid (Below g2 w2 wb) := hB'
          clear hA' hB'
          go_wp2
          go_roundw
          case rel => exact ⟨k + 1, by omega, by go_num, HA6.out, HB6.out⟩
          case measure => simp [intOf]; omega
    · have hk4 : k = 4 := by omega
      subst hk4
      have HA4 : Hid (Ar wa g2 0 .u8 zs) := by have := HA.out; rw [show 4 * 4 = 16 from rfl, HZ.out.2.1] at this; exact this
      have D2 : Hid (Ar wa g1 0 .u8 z16) := HA2.out.below HB.out o2
      clear HA
      go_wp2_with (first
        | (refine load_lawN _ rfl (.tmp 5) 79 rfl .u8 zs g2 0 rfl HA4.out 4 16 73 Try.underlying79 i_st HZ.out.2.2 ?_)
        | (refine store_lawF _ rfl (.tmp 4) (.tmp 31) 79 rfl .u8 z16 zs g1 rfl rfl D2.out 16 i_st z16_len HZ.out.2.2 ?_; intro w7 A7 B7))
      refine bodyPost_ret (v := .agg (ints .u8 zs)) (results_arN rfl _ _ g1 0 .u8 zs rfl A7 4 16 73 Try.underlying79 i_st HZ.out.2.2) rfl ⟨rfl, ?_⟩
      rw [hg0]
      exact (BW.trans (HB.out.mono (by omega))).trans (B7.mono (by omega))
end Go.Proofs.Ytifepmdhbhdjpaa

/- What aes' mixed and put answer, with Mix and Unmix, Subs and Backs. No claim of its own. -/
namespace Go.Proofs.Ytifepmdhbhdjpaa
open Go.RowKit
set_option maxRecDepth 20000

/-- a part of an array is written; the world gets a name -/
theorem store_lawM {ops : Array Oper} {rest : List Oper} {o : Oper} {a : Act} {Q : Exit → Act → World → Prop} (w : World) (hg : o.guard = none) (x y : Operand) (t : TypeId) (hop : o.op = Op.store t x y) (xs ys : List Int) (b p : Nat) (hx : a.eval x = .pointer (some ⟨b, p, none⟩)) (hy : a.eval y = .agg (ints .u8 ys))
    (hA : Ar w b 0 .u8 xs) (n : Nat) (hi : (Try.prog.info? t).map (·.size) = some n) (hn : ys.length = n) (hl : p + n ≤ xs.length)
    (hK : ∀ w', Ar w' b 0 .u8 (laid xs p ys) → Below b w w' → (∀ b' o' k' zs, b' ≠ b → Ar w b' o' k' zs → Ar w' b' o' k' zs) → wpList Try.prog ops Q rest (a.put o.dst undef) w') :
    wpList Try.prog ops Q (o :: rest) a w :=
  store_law w hg x y t hop .u8 ys b p hx hy (by rw [hn]; exact thereG hA p n hl) n hi hn (hK _ (hA.layG p ys (by omega)) (below_cells _ (Nat.le_refl _) _ _ (Below.refl _ _)) (fun b' o' k' zs hb' h => h.apart b p _ (Or.inl hb')))

/-- the first k columns are mixed -/
def prm (xs ms : List Int) (k : Nat) : List Int := (List.range 16).map fun i => if i < 4 * k then gb ms i else gb xs i
theorem prm_len (xs ms : List Int) (k : Nat) : (prm xs ms k).length = 16 := by simp [prm]
theorem gb_prm (xs ms : List Int) (k t : Nat) (h : t < 16) : gb (prm xs ms k) t = if t < 4 * k then gb ms t else gb xs t := range_gb _ _ _ h
theorem prm_zero (xs ms : List Int) (h : xs.length = 16) : prm xs ms 0 = xs := ext_gb (by rw [prm_len, h]) fun t ht => by
  rw [prm_len] at ht
  rw [gb_prm _ _ _ _ ht, if_neg (by omega)]
theorem prm_end (xs ms : List Int) (h : ms.length = 16) : prm xs ms 4 = ms := ext_gb (by rw [prm_len, h]) fun t ht => by
  rw [prm_len] at ht
  rw [gb_prm _ _ _ _ ht, if_pos (by omega)]
theorem prm_lay (xs ms : List Int) (k : Nat) (hk : k < 4) (h : ms.length = 16) : laid (prm xs ms k) (4 * k) (cut4 ms k) = prm xs ms (k + 1) := by
  have hc := cut4_len ms k (by omega)
  refine ext_gb (by rw [laid_len _ _ _ (by rw [prm_len, hc]; omega), prm_len, prm_len]) fun t ht => ?_
  rw [laid_len _ _ _ (by rw [prm_len, hc]; omega), prm_len] at ht
  rw [gb_laid _ _ _ (by rw [prm_len, hc]; omega), gb_prm _ _ _ _ ht, gb_prm _ _ _ _ ht, hc]
  by_cases h1 : t < 4 * k
  · rw [if_pos h1, if_pos h1, if_pos (by omega)]
  · rw [if_neg h1, if_neg h1]
    by_cases h2 : t < 4 * k + 4
    · rw [if_pos h2, if_pos (by omega), cut4_gb _ _ _ (by omega), show 4 * k + (t - 4 * k) = t by omega]
    · rw [if_neg h2, if_neg (by omega)]
theorem cut4_col (xs : List Int) (k : Nat) (h : Blk xs) (hk : k < 4) : cut4 xs k = cI (colOf xs k) := by
  have hc := cut4_len xs k (by rw [h.1]; omega)
  refine ext_gb (by rw [hc, cI_len, (colOf_col xs k h.2).1]) fun t ht => ?_
  rw [hc] at ht
  rw [cut4_gb _ _ _ ht, gb_cI, colOf_gn _ _ _ ht]
  have := h.2 (4 * k + t)
  omega
theorem trn_cut (xs : List Int) (ws : List Nat) (k : Nat) (hk : k < 4) (hw : Col ws) : cI (trn (colOf xs k) ws) = cut4 (mixb xs ws) k := by
  rw [cut4_col _ k (mixb_blk xs ws hw) hk, colOf_mixb xs ws k hk]

set_option linter.unusedSimpArgs false in
set_option maxRecDepth 20000 in
set_option maxHeartbeats 4000000 in
theorem mixed_mix (xs : List Int) (w : World) (hx : Blk xs) :
    Calls Try.prog 74 #[.agg (ints .u8 xs), .func (.func 75) #[] #[]] w fun e w' => e = .returned (.agg (ints .u8 (mixb xs mixW))) ∧ Below w.heap.size w w' := by
  have HX : Hid (Blk xs) := hx
  have HM : Hid (∀ k, k < 4 → ∀ w0, Calls Try.prog 75 #[.agg (ints .u8 (cut4 xs k))] w0 fun e w' => e = .returned (.agg (ints .u8 (cut4 (mixb xs mixW) k))) ∧ Below w0.heap.size w0 w') := fun k hk w0 => by
    have := mix_any (colOf xs k) w0 (colOf_col xs k hx.2)
    rw [trn_cut xs mixW k hk mixW_col, ← cut4_col xs k hx hk] at this
    exact this
  have ML : Hid ((mixb xs mixW).length = 16) := mixb_len xs mixW
  generalize mixb xs mixW = ms at *
  have HZ : Hid (prm xs ms 0 = xs ∧ prm xs ms 4 = ms) := ⟨prm_zero xs ms hx.1, prm_end xs ms ML.out⟩
  clear hx
  go_enter Try.func74, Try.ntmps74
  go_wp2_with (first
    | (refine box_lawF _ rfl (.tmp 0) 79 rfl .u8 xs rfl ?_; intro w1 A1 B1 s1; have HA1 : Hid (Ar w1 w.heap.size 0 .u8 xs) := A1; clear A1)
    | (have q1 := s1; refine new_lawF _ rfl 79 rfl .u8 z16 z_st ?_; intro w2 A2 B2 s2; have HA2 : Hid (Ar w2 w1.heap.size 0 .u8 z16) := A2; clear A2)
    | (have q2 := s2; refine load_lawN _ rfl (.tmp 2) 79 rfl .u8 xs w.heap.size 0 rfl (HA1.out.below B2 s1) 4 16 73 Try.underlying79 i_st HX.out.1 ?_))
  have D1 : Hid (Ar w2 w.heap.size 0 .u8 xs) := HA1.out.below B2 s1
  have BW : Below w.heap.size w w2 := B1.trans (B2.mono (by omega))
  have o1 : w.heap.size < w1.heap.size := s1
  have o2 : w1.heap.size < w2.heap.size := s2
  generalize hg0 : w.heap.size = g0 at *
  generalize w1.heap.size = g1 at *
  go_loopw [8] (fun i wr => ∃ k : Nat, k ≤ 4 ∧ i = .int .i64 k ∧ Ar wr g0 0 .u8 (prm xs ms k) ∧ Ar wr g1 0 .u8 z16 ∧ Below g0 w wr ∧ g1 < wr.heap.size) (fun i _ => 4 - (intOf i).toNat)
  case atStart => exact ⟨0, Nat.zero_le _, rfl, by rw [HZ.out.1]; exact D1.out, HA2.out, BW, o2⟩
  case round =>
    obtain ⟨k, hk, rfl, hA, hR, hB, hS⟩ := hrel
    have k0 : (0 : Int) ≤ (k : Int) := by omega
    have q1 : IntKind.i64.wrap (k : Int) = k := by rw [IntKind.wrap_i64]; omega
    have HA : Hid (Ar wr g0 0 .u8 (prm xs ms k)) := hA
    have HR : Hid (Ar wr g1 0 .u8 z16) := hR
    have HB : Hid (Below g0 w wr) := hB
    clear hA hR hB
    by_cases hlt : k < 4
    · have k1 : (k : Int) < 4 := by omega
      have CL : Hid ((cut4 xs k).length = 4) := cut4_len xs k (by rw [HX.out.1]; omega)
      have CM : Hid ((cut4 ms k).length = 4) := cut4_len ms k (by rw [ML.out]; omega)
      have HMk : Hid (∀ w0, Calls Try.prog 75 #[.agg (ints .u8 (cut4 xs k))] w0 fun e w' => e = .returned (.agg (ints .u8 (cut4 ms k))) ∧ Below w0.heap.size w0 w') := HM.out k hlt
      have FC : Hid (laid (prm xs ms k) (4 * k) (cut4 ms k) = prm xs ms (k + 1)) := prm_lay xs ms k hlt ML.out
      obtain ⟨cs, hcs⟩ : ∃ cs, cs = cut4 xs k := ⟨_, rfl⟩
      have HCS : Hid (cs = cut4 xs k) := hcs
      rw [← hcs] at CL HMk
      generalize cut4 ms k = ds at *
      clear hcs
      go_wp2_with (first
        | (refine idx_st _ rfl (.tmp 7) (.tmp 8) rfl xs _ k rfl rfl rfl hlt cs HCS.out ?_)
        | (refine new_lawF _ rfl 73 rfl .u8 z4 z_arr4 ?_; intro w3 A3 B3 s3; have HA3 : Hid (Ar w3 wr.heap.size 0 .u8 z4) := A3; clear A3)
        | (have q3 := s3; refine store_lawF _ rfl (.tmp 6) (.tmp 11) 73 rfl .u8 z4 cs wr.heap.size rfl rfl HA3.out 4 i_arr4 rfl CL.out ?_; intro w4 A4 B4; have HA4 : Hid (Ar w4 wr.heap.size 0 .u8 cs) := A4; clear A4; have B34 : Below wr.heap.size wr w4 := B3.trans (B4.mono (by omega)))
        | (refine load_law _ rfl (.tmp 6) 73 rfl .u8 cs wr.heap.size 0 rfl HA4.out 4 5 Try.underlying73 i_arr4 CL.out ?_)
        | (go_at_call 75; refine (HMk.out _).mono ?_; rintro e w5 ⟨rfl, B5⟩; have BB : Below wr.heap.size wr w5 := B34.trans (B5.mono B34.size); have HA5 : Hid (Ar w5 g0 0 .u8 (prm xs ms k)) := HA.out.below BB (by omega))
        | (have q5 := HA5; refine store_lawM _ rfl (.tmp 16) (.tmp 15) 73 rfl (prm xs ms k) ds g0 (4 * k) (by rw [Nat.mul_comm 4 k]; rfl) rfl HA5.out 4 i_arr4 CM.out (by rw [prm_len]; omega) ?_; intro w6 A6 B6 C6; rw [FC.out] at A6; have HR6 : Hid (Ar w6 g1 0 .u8 z16) := C6 g1 0 .u8 z16 (by omega) (HR.out.below BB hS); clear C6; have HA6 : Hid (Ar w6 g0 0 .u8 (prm xs ms (k + 1))) := A6; clear A6))
      have BR : Below wr.heap.size wr w5 := BB
      have HB6 : Hid (Below g0 w w6) := (HB.out.trans (BR.mono (by omega))).trans B6
      go_roundw
      case rel => exact ⟨k + 1, by omega, by go_num, HA6.out, HR6.out, HB6.out, HR6.out.lt (by rw [z16_len]; omega)⟩
      case measure => simp [intOf]; omega
    · have hk4 : k = 4 := by omega
      subst hk4
      have HA4 : Hid (Ar wr g0 0 .u8 ms) := by have := HA.out; rw [HZ.out.2] at this; exact this
      clear HA
      go_wp2_with (first
        | (refine load_lawN _ rfl (.tmp 2) 79 rfl .u8 ms g0 0 rfl HA4.out 4 16 73 Try.underlying79 i_st ML.out ?_)
        | (refine store_lawF _ rfl (.tmp 4) (.tmp 18) 79 rfl .u8 z16 ms g1 rfl rfl HR.out 16 i_st z16_len ML.out ?_; intro w7 A7 B7))
      refine bodyPost_ret (v := .agg (ints .u8 ms)) (results_arN rfl _ _ g1 0 .u8 ms rfl A7 4 16 73 Try.underlying79 i_st ML.out) rfl ⟨rfl, ?_⟩
      rw [hg0]
      exact HB.out.trans (B7.mono (by omega))

set_option linter.unusedSimpArgs false in
set_option maxRecDepth 20000 in
set_option maxHeartbeats 4000000 in
theorem mixed_unmix (xs : List Int) (w : World) (hx : Blk xs) :
    Calls Try.prog 74 #[.agg (ints .u8 xs), .func (.func 79) #[] #[]] w fun e w' => e = .returned (.agg (ints .u8 (mixb xs unmW))) ∧ Below w.heap.size w w' := by
  have HX : Hid (Blk xs) := hx
  have HM : Hid (∀ k, k < 4 → ∀ w0, Calls Try.prog 79 #[.agg (ints .u8 (cut4 xs k))] w0 fun e w' => e = .returned (.agg (ints .u8 (cut4 (mixb xs unmW) k))) ∧ Below w0.heap.size w0 w') := fun k hk w0 => by
    have := unmix_any (colOf xs k) w0 (colOf_col xs k hx.2)
    rw [trn_cut xs unmW k hk unmW_col, ← cut4_col xs k hx hk] at this
    exact this
  have ML : Hid ((mixb xs unmW).length = 16) := mixb_len xs unmW
  generalize mixb xs unmW = ms at *
  have HZ : Hid (prm xs ms 0 = xs ∧ prm xs ms 4 = ms) := ⟨prm_zero xs ms hx.1, prm_end xs ms ML.out⟩
  clear hx
  go_enter Try.func74, Try.ntmps74
  go_wp2_with (first
    | (refine box_lawF _ rfl (.tmp 0) 79 rfl .u8 xs rfl ?_; intro w1 A1 B1 s1; have HA1 : Hid (Ar w1 w.heap.size 0 .u8 xs) := A1; clear A1)
    | (have q1 := s1; refine new_lawF _ rfl 79 rfl .u8 z16 z_st ?_; intro w2 A2 B2 s2; have HA2 : Hid (Ar w2 w1.heap.size 0 .u8 z16) := A2; clear A2)
    | (have q2 := s2; refine load_lawN _ rfl (.tmp 2) 79 rfl .u8 xs w.heap.size 0 rfl (HA1.out.below B2 s1) 4 16 73 Try.underlying79 i_st HX.out.1 ?_))
  have D1 : Hid (Ar w2 w.heap.size 0 .u8 xs) := HA1.out.below B2 s1
  have BW : Below w.heap.size w w2 := B1.trans (B2.mono (by omega))
  have o1 : w.heap.size < w1.heap.size := s1
  have o2 : w1.heap.size < w2.heap.size := s2
  generalize hg0 : w.heap.size = g0 at *
  generalize w1.heap.size = g1 at *
  go_loopw [8] (fun i wr => ∃ k : Nat, k ≤ 4 ∧ i = .int .i64 k ∧ Ar wr g0 0 .u8 (prm xs ms k) ∧ Ar wr g1 0 .u8 z16 ∧ Below g0 w wr ∧ g1 < wr.heap.size) (fun i _ => 4 - (intOf i).toNat)
  case atStart => exact ⟨0, Nat.zero_le _, rfl, by rw [HZ.out.1]; exact D1.out, HA2.out, BW, o2⟩
  case round =>
    obtain ⟨k, hk, rfl, hA, hR, hB, hS⟩ := hrel
    have k0 : (0 : Int) ≤ (k : Int) := by omega
    have q1 : IntKind.i64.wrap (k : Int) = k := by rw [IntKind.wrap_i64]; omega
    have HA : Hid (Ar wr g0 0 .u8 (prm xs ms k)) := hA
    have HR : Hid (Ar wr g1 0 .u8 z16) := hR
    have HB : Hid (Below g0 w wr) := hB
    clear hA hR hB
    by_cases hlt : k < 4
    · have k1 : (k : Int) < 4 := by omega
      have CL : Hid ((cut4 xs k).length = 4) := cut4_len xs k (by rw [HX.out.1]; omega)
      have CM : Hid ((cut4 ms k).length = 4) := cut4_len ms k (by rw [ML.out]; omega)
      have HMk : Hid (∀ w0, Calls Try.prog 79 #[.agg (ints .u8 (cut4 xs k))] w0 fun e w' => e = .returned (.agg (ints .u8 (cut4 ms k))) ∧ Below w0.heap.size w0 w') := HM.out k hlt
      have FC : Hid (laid (prm xs ms k) (4 * k) (cut4 ms k) = prm xs ms (k + 1)) := prm_lay xs ms k hlt ML.out
      obtain ⟨cs, hcs⟩ : ∃ cs, cs = cut4 xs k := ⟨_, rfl⟩
      have HCS : Hid (cs = cut4 xs k) := hcs
      rw [← hcs] at CL HMk
      generalize cut4 ms k = ds at *
      clear hcs
      go_wp2_with (first
        | (refine idx_st _ rfl (.tmp 7) (.tmp 8) rfl xs _ k rfl rfl rfl hlt cs HCS.out ?_)
        | (refine new_lawF _ rfl 73 rfl .u8 z4 z_arr4 ?_; intro w3 A3 B3 s3; have HA3 : Hid (Ar w3 wr.heap.size 0 .u8 z4) := A3; clear A3)
        | (have q3 := s3; refine store_lawF _ rfl (.tmp 6) (.tmp 11) 73 rfl .u8 z4 cs wr.heap.size rfl rfl HA3.out 4 i_arr4 rfl CL.out ?_; intro w4 A4 B4; have HA4 : Hid (Ar w4 wr.heap.size 0 .u8 cs) := A4; clear A4; have B34 : Below wr.heap.size wr w4 := B3.trans (B4.mono (by omega)))
        | (refine load_law _ rfl (.tmp 6) 73 rfl .u8 cs wr.heap.size 0 rfl HA4.out 4 5 Try.underlying73 i_arr4 CL.out ?_)
        | (go_at_call 79; refine (HMk.out _).mono ?_; rintro e w5 ⟨rfl, B5⟩; have BB : Below wr.heap.size wr w5 := B34.trans (B5.mono B34.size); have HA5 : Hid (Ar w5 g0 0 .u8 (prm xs ms k)) := HA.out.below BB (by omega))
        | (have q5 := HA5; refine store_lawM _ rfl (.tmp 16) (.tmp 15) 73 rfl (prm xs ms k) ds g0 (4 * k) (by rw [Nat.mul_comm 4 k]; rfl) rfl HA5.out 4 i_arr4 CM.out (by rw [prm_len]; omega) ?_; intro w6 A6 B6 C6; rw [FC.out] at A6; have HR6 : Hid (Ar w6 g1 0 .u8 z16) := C6 g1 0 .u8 z16 (by omega) (HR.out.below BB hS); clear C6; have HA6 : Hid (Ar w6 g0 0 .u8 (prm xs ms (k + 1))) := A6; clear A6))
      have BR : Below wr.heap.size wr w5 := BB
      have HB6 : Hid (Below g0 w w6) := (HB.out.trans (BR.mono (by omega))).trans B6
      go_roundw
      case rel => exact ⟨k + 1, by omega, by go_num, HA6.out, HR6.out, HB6.out, HR6.out.lt (by rw [z16_len]; omega)⟩
      case measure => simp [intOf]; omega
    · have hk4 : k = 4 := by omega
      subst hk4
      have HA4 : Hid (Ar wr g0 0 .u8 ms) := by have := HA.out; rw [HZ.out.2] at this; exact this
      clear HA
      go_wp2_with (first
        | (refine load_lawN _ rfl (.tmp 2) 79 rfl .u8 ms g0 0 rfl HA4.out 4 16 73 Try.underlying79 i_st ML.out ?_)
        | (refine store_lawF _ rfl (.tmp 4) (.tmp 18) 79 rfl .u8 z16 ms g1 rfl rfl HR.out 16 i_st z16_len ML.out ?_; intro w7 A7 B7))
      refine bodyPost_ret (v := .agg (ints .u8 ms)) (results_arN rfl _ _ g1 0 .u8 ms rfl A7 4 16 73 Try.underlying79 i_st ML.out) rfl ⟨rfl, ?_⟩
      rw [hg0]
      exact HB.out.trans (B7.mono (by omega))

set_option maxHeartbeats 2000000 in
theorem put_subs (xs : List Int) (w : World) (hx : Blk xs) :
    Calls Try.prog 71 #[.agg (ints .u8 xs), .func (.func 72) #[] #[]] w fun e w' => e = .returned (.agg (ints .u8 (looked ptab xs))) ∧ Below w.heap.size w w' := by
  have HX : Hid (Blk xs) := hx
  have HLi : Hid (∀ w0, Calls Try.prog 76 #[.agg (ints .u8 xs)] w0 fun e w' => ∃ g, e = .returned (.slice (some ⟨g, 0, none⟩) 16 16) ∧ Ar w' g 0 .u8 xs ∧ w0.heap.size ≤ g ∧ Below w0.heap.size w0 w') := fun w0 => list_any xs w0 hx.1 hx.2
  have HS : Hid (∀ v w0, Byt w0 v xs → Calls Try.prog 72 #[v] w0 fun e w' => ∃ v', e = .returned v' ∧ Byt w' v' (looked ptab xs) ∧ Below w0.heap.size w0 w') := fun v w0 h => subs_any v xs w0 h (by rw [hx.1]; omega)
  have hb := looked_blk ptab xs pAll hx.1
  have HO : Hid (∀ v w0, Byt w0 v (looked ptab xs) → Calls Try.prog 69 #[v] w0 fun e w' => e = .returned (.agg (ints .u8 (looked ptab xs))) ∧ Below w0.heap.size w0 w') := fun v w0 h => of_any v _ w0 h hb.1
  have ZL : Hid ((looked ptab xs).length = 16) := hb.1
  generalize looked ptab xs = zs at *
  clear hx hb
  go_enter Try.func71, Try.ntmps71
  go_wp2_with (first
    | (refine box_lawF _ rfl (.tmp 0) 79 rfl .u8 xs rfl ?_; intro w1 A1 B1 s1; have HA1 : Hid (Ar w1 w.heap.size 0 .u8 xs) := A1; clear A1)
    | (have q1 := s1; refine new_lawF _ rfl 79 rfl .u8 z16 z_st ?_; intro w2 A2 B2 s2; have HA2 : Hid (Ar w2 w1.heap.size 0 .u8 z16) := A2; clear A2)
    | (have q2 := s2; refine load_lawN _ rfl (.tmp 2) 79 rfl .u8 xs w.heap.size 0 rfl (HA1.out.below B2 s1) 4 16 73 Try.underlying79 i_st HX.out.1 ?_)
    | (go_at_call 69; refine (HO.out _ _ Y4.out).mono ?_; rintro e w5 ⟨rfl, B5⟩; have D5 : Hid (Ar w5 w1.heap.size 0 .u8 z16) := ((HA2.out.below B3 s2).below B4 (by have := B3.size; omega)).below B5 (by have := B3.size; have := B4.size; omega))
    | (go_at_call 72; refine (HS.out _ _ Y3.out).mono ?_; rintro e w4 ⟨v4, rfl, y4, B4⟩; have Y4 : Hid (Byt w4 v4 zs) := y4; clear y4)
    | (go_at_call 76; refine (HLi.out _).mono ?_; rintro e w3 ⟨g, rfl, A3, L3, B3⟩; have Y3 : Hid (Byt w3 (.slice (some ⟨g, 0, none⟩) 16 16) xs) := A3.bytG HX.out.2 16 16 HX.out.1 (by omega) (by omega); clear A3)
    | (have q5 := D5; refine store_lawF _ rfl (.tmp 4) (.tmp 9) 79 rfl .u8 z16 zs w1.heap.size rfl rfl D5.out 16 i_st z16_len ZL.out ?_; intro w6 A6 B6))
  refine bodyPost_ret (v := .agg (ints .u8 zs)) (results_arN rfl _ _ w1.heap.size 0 .u8 zs rfl A6 4 16 73 Try.underlying79 i_st ZL.out) rfl ⟨rfl, ?_⟩
  have z3 := B3.size
  have z4_ := B4.size
  exact ((((B1.trans (B2.mono (by omega))).trans (B3.mono (by omega))).trans (B4.mono (by omega))).trans (B5.mono (by omega))).trans (B6.mono (by omega))

set_option maxHeartbeats 2000000 in
theorem put_backsl (xs : List Int) (w : World) (hx : Blk xs) :
    Calls Try.prog 71 #[.agg (ints .u8 xs), .func (.func 78) #[] #[]] w fun e w' => e = .returned (.agg (ints .u8 (looked btab xs))) ∧ Below w.heap.size w w' := by
  have HX : Hid (Blk xs) := hx
  have HLi : Hid (∀ w0, Calls Try.prog 76 #[.agg (ints .u8 xs)] w0 fun e w' => ∃ g, e = .returned (.slice (some ⟨g, 0, none⟩) 16 16) ∧ Ar w' g 0 .u8 xs ∧ w0.heap.size ≤ g ∧ Below w0.heap.size w0 w') := fun w0 => list_any xs w0 hx.1 hx.2
  have HS : Hid (∀ v w0, Byt w0 v xs → Calls Try.prog 78 #[v] w0 fun e w' => ∃ v', e = .returned v' ∧ Byt w' v' (looked btab xs) ∧ Below w0.heap.size w0 w') := fun v w0 h => backsl_any v xs w0 h (by rw [hx.1]; omega)
  have hb := looked_blk btab xs bAll hx.1
  have HO : Hid (∀ v w0, Byt w0 v (looked btab xs) → Calls Try.prog 69 #[v] w0 fun e w' => e = .returned (.agg (ints .u8 (looked btab xs))) ∧ Below w0.heap.size w0 w') := fun v w0 h => of_any v _ w0 h hb.1
  have ZL : Hid ((looked btab xs).length = 16) := hb.1
  generalize looked btab xs = zs at *
  clear hx hb
  go_enter Try.func71, Try.ntmps71
  go_wp2_with (first
    | (refine box_lawF _ rfl (.tmp 0) 79 rfl .u8 xs rfl ?_; intro w1 A1 B1 s1; have HA1 : Hid (Ar w1 w.heap.size 0 .u8 xs) := A1; clear A1)
    | (have q1 := s1; refine new_lawF _ rfl 79 rfl .u8 z16 z_st ?_; intro w2 A2 B2 s2; have HA2 : Hid (Ar w2 w1.heap.size 0 .u8 z16) := A2; clear A2)
    | (have q2 := s2; refine load_lawN _ rfl (.tmp 2) 79 rfl .u8 xs w.heap.size 0 rfl (HA1.out.below B2 s1) 4 16 73 Try.underlying79 i_st HX.out.1 ?_)
    | (go_at_call 69; refine (HO.out _ _ Y4.out).mono ?_; rintro e w5 ⟨rfl, B5⟩; have D5 : Hid (Ar w5 w1.heap.size 0 .u8 z16) := ((HA2.out.below B3 s2).below B4 (by have := B3.size; omega)).below B5 (by have := B3.size; have := B4.size; omega))
    | (go_at_call 78; refine (HS.out _ _ Y3.out).mono ?_; rintro e w4 ⟨v4, rfl, y4, B4⟩; have Y4 : Hid (Byt w4 v4 zs) := y4; clear y4)
    | (go_at_call 76; refine (HLi.out _).mono ?_; rintro e w3 ⟨g, rfl, A3, L3, B3⟩; have Y3 : Hid (Byt w3 (.slice (some ⟨g, 0, none⟩) 16 16) xs) := A3.bytG HX.out.2 16 16 HX.out.1 (by omega) (by omega); clear A3)
    | (have q5 := D5; refine store_lawF _ rfl (.tmp 4) (.tmp 9) 79 rfl .u8 z16 zs w1.heap.size rfl rfl D5.out 16 i_st z16_len ZL.out ?_; intro w6 A6 B6))
  refine bodyPost_ret (v := .agg (ints .u8 zs)) (results_arN rfl _ _ w1.heap.size 0 .u8 zs rfl A6 4 16 73 Try.underlying79 i_st ZL.out) rfl ⟨rfl, ?_⟩
  have z3 := B3.size
  have z4_ := B4.size
  exact ((((B1.trans (B2.mono (by omega))).trans (B3.mono (by omega))).trans (B4.mono (by omega))).trans (B5.mono (by omega))).trans (B6.mono (by omega))
end Go.Proofs.Ytifepmdhbhdjpaa

/- What aes' takes and Encrypt answer. No claim of its own. -/
namespace Go.Proofs.Ytifepmdhbhdjpaa
open Go.RowKit
set_option maxRecDepth 20000

set_option maxHeartbeats 1000000 in
theorem takes_yes (v : Value) (xs key : List Int) (kb : Nat) (w : World) (hk : KeyA w kb key) (hv : Byt w v xs) (hl : xs.length = 16) :
    Calls Try.prog 68 #[.pointer (some ⟨kb, 0, none⟩), v] w fun e w' => e = .returned (.bool true) ∧ w' = w := by
  have c := hk.1
  obtain ⟨ao, ca, rfl, -, -, -, -, -⟩ := hv
  rw [hl]
  clear hk hl
  go_enter Try.func68, Try.ntmps68
  go_wp2
  go_ret
  exact ⟨rfl, rfl⟩
set_option maxHeartbeats 1000000 in
theorem takes_len (v : Value) (xs key : List Int) (kb : Nat) (w : World) (hk : KeyA w kb key) (hv : Byt w v xs) (hl : ¬ xs.length = 16) :
    Calls Try.prog 68 #[.pointer (some ⟨kb, 0, none⟩), v] w fun e w' => e = .returned (.bool false) ∧ w' = w := by
  have c := hk.1
  obtain ⟨ao, ca, rfl, h1, h2, -, -, -⟩ := hv
  have h3 : ¬ ((xs.length : Int) = 16) := by omega
  clear hk hl
  generalize xs.length = n at *
  go_enter Try.func68, Try.ntmps68
  go_wp2
  go_ret
  exact ⟨ret_bool (by simpa using h3), rfl⟩
set_option maxHeartbeats 1000000 in
theorem takes_nil (v : Value) (w : World) :
    Calls Try.prog 68 #[.pointer none, v] w fun e w' => e = .returned (.bool false) ∧ w' = w := by
  go_enter Try.func68, Try.ntmps68
  go_wp2
  go_ret
  exact ⟨rfl, rfl⟩
set_option maxHeartbeats 1000000 in
theorem takes_raw (v : Value) (kb : Nat) (w : World) (c : w.cell? ⟨kb, 0, none⟩ = some (.bool false)) :
    Calls Try.prog 68 #[.pointer (some ⟨kb, 0, none⟩), v] w fun e w' => e = .returned (.bool false) ∧ w' = w := by
  go_enter Try.func68, Try.ntmps68
  go_wp2
  go_ret
  exact ⟨rfl, rfl⟩
end Go.Proofs.Ytifepmdhbhdjpaa

