/- What aes' New answers: a key's bytes as its rounds' keys. No claim of its own. -/
import Derived.Test.YtjiddmgnkldmkaaAExp
namespace Go.Proofs.Ytjiddmgnkldmkaa
open Go.RowKit

theorem ua_sts : Try.prog.underlying 51 = some (.array (Try.prog.arrayLen 51) (Try.prog.elem 51)) := by kernel_rfl
theorem la_sts : Try.prog.arrayLen 51 = 15 := by kernel_rfl
theorem ia_sts : (Try.prog.info? (Try.prog.elem 51)).map (·.size) = some 16 := by kernel_rfl

/-- all rounds' keys -/
def rks (key : List Int) : List Int := (List.range 240).map fun i => gb (wd key (i / 4)) (i % 4)
theorem rks_len (key : List Int) : (rks key).length = 240 := by simp [rks]
theorem rks_gb (key : List Int) (t : Nat) (h : t < 240) : gb (rks key) t = gb (wd key (t / 4)) (t % 4) := range_gb _ _ _ h
theorem rks_cut (key : List Int) (hk : key.length = 32) (ha : AllB key) (k : Nat) (h : k < 60) : cut4 (rks key) k = wd key k := by
  have hc := cut4_len (rks key) k (by rw [rks_len]; omega)
  refine ext_gb (by rw [hc, (wd_wd key hk ha k).1]) fun t ht => ?_
  rw [hc] at ht
  rw [cut4_gb _ _ _ ht, rks_gb _ _ (by omega), show (4 * k + t) / 4 = k by omega, show (4 * k + t) % 4 = t by omega]
theorem gb_app4 (a b : List Int) (n t : Nat) (ha : a.length = n) : gb (a ++ b) t = if t < n then gb a t else gb b (t - n) := by
  subst ha
  unfold gb
  by_cases h : t < a.length
  · rw [if_pos h, List.getD_eq_getElem?_getD, List.getElem?_append_left h]; rfl
  · rw [if_neg h, List.getD_eq_getElem?_getD, List.getElem?_append_right (by omega)]; rfl
theorem rk_gb (key : List Int) (hk : key.length = 32) (ha : AllB key) (r t : Nat) (h : t < 16) : gb (rk key r) t = gb (wd key (4 * r + t / 4)) (t % 4) := by
  have h0 := (wd_wd key hk ha (4 * r)).1
  have h1 := (wd_wd key hk ha (4 * r + 1)).1
  have h2 := (wd_wd key hk ha (4 * r + 2)).1
  unfold rk
  rw [gb_app4 _ _ 12 _ (by simp [h0, h1, h2]), gb_app4 _ _ 8 _ (by simp [h0, h1]), gb_app4 _ _ 4 _ h0]
  by_cases c3 : t < 12
  · rw [if_pos c3]
    by_cases c2 : t < 8
    · rw [if_pos c2]
      by_cases c1 : t < 4
      · rw [if_pos c1, show t / 4 = 0 by omega, show t % 4 = t by omega]; rfl
      · rw [if_neg c1, show t / 4 = 1 by omega, show t % 4 = t - 4 by omega]
    · rw [if_neg c2, show t / 4 = 2 by omega, show t % 4 = t - 8 by omega]
  · rw [if_neg c3, show t / 4 = 3 by omega, show t % 4 = t - 12 by omega]

/-- the key that lies in block kb -/
def KeyA (w : World) (kb : Nat) (key : List Int) : Prop := w.cell? ⟨kb, 0, none⟩ = some (.bool true) ∧ Ar w kb 1 .u8 (rks key)
theorem KeyA.lt {w : World} {kb : Nat} {key : List Int} (h : KeyA w kb key) : kb < w.heap.size := World.block_lt_of_cell? w _ h.1
theorem KeyA.below {w w' : World} {kb B : Nat} {key : List Int} (h : KeyA w kb key) (hb : Below B w w') (hB : kb < B) : KeyA w' kb key :=
  ⟨by rw [World.cell?_of_block (w := w) (w' := w') (a := ⟨kb, 0, none⟩) (hb.block kb hB)]; exact h.1, h.2.below hb hB⟩
theorem KeyA.round {w : World} {kb : Nat} {key : List Int} (h : KeyA w kb key) (hk : key.length = 32) (ha : AllB key) (r : Nat) (hr : r < 15) : Ar w kb (1 + 16 * r) .u8 (rk key r) := by
  have hl := (rk_blk key hk ha r).1
  refine h.2.subG (16 * r) (rk key r) (by rw [hl, rks_len]; omega) fun t ht => ?_
  rw [hl] at ht
  rw [rk_gb key hk ha r t ht, rks_gb _ _ (by omega), show (16 * r + t) / 4 = 4 * r + t / 4 by omega, show (16 * r + t) % 4 = t % 4 by omega]

/-- what a new key's cells are -/
def kz : List Value := .bool true :: (List.replicate 240 (0 : Int)).map (Value.int .u8)
theorem kz_at (w : World) (t : TypeId) : (w.alloc (.cells kz.toArray t)).cell? ⟨w.heap.size, 0, none⟩ = some (.bool true) ∧ Ar (w.alloc (.cells kz.toArray t)) w.heap.size 1 .u8 (List.replicate 240 0) := by
  have e : ∀ i, (w.alloc (.cells kz.toArray t)).cell? ⟨w.heap.size, i, none⟩ = kz.toArray[i]? := fun i => cell_of_row (w.alloc (.cells kz.toArray t)) w.heap.size i _ t (0, 0) (heap_alloc_last w _)
  refine ⟨by rw [e, List.getElem?_toArray, kz, List.getElem?_cons_zero], Ar.mk fun i hi => ⟨?_, World.frozen?_alloc_at _ _ _ _ rfl⟩⟩
  rw [List.length_replicate] at hi
  have hg : gb (List.replicate 240 (0 : Int)) i = 0 := by
    unfold gb
    rw [List.getD_eq_getElem?_getD, List.getElem?_replicate, if_pos hi]; rfl
  rw [e, List.getElem?_toArray, kz, Nat.add_comm 1 i, List.getElem?_cons_succ, List.getElem?_map, List.getElem?_replicate, if_pos hi, hg]
  rfl

section
variable {ops : Array Oper} {rest : List Oper} {o : Oper} {a : Act} {Q : Exit → Act → World → Prop}
/-- a new key gets a place -/
theorem box_lawK (w : World) (hg : o.guard = none) (x : Operand) (t : TypeId) (hop : o.op = Op.box t x) (hx : a.eval x = .agg kz.toArray)
    (hK : ∀ w', w'.cell? ⟨w.heap.size, 0, none⟩ = some (.bool true) → Ar w' w.heap.size 1 .u8 (List.replicate 240 0) → Below w.heap.size w w' → w.heap.size < w'.heap.size → wpList Try.prog ops Q rest (a.put o.dst (.pointer (some ⟨w.heap.size, 0, none⟩))) w') :
    wpList Try.prog ops Q (o :: rest) a w := by
  refine wpList_plain hg fun K hK' => ?_
  have := hK _ (kz_at w t).1 (kz_at w t).2 ((Below.refl _ _).alloc (Nat.le_refl _) _) (by simp)
  unfold Oper.wp
  simp [execOp, hop, hx, Instr.box, newVar, newRow, Value.cells, Result.andThen]
  exact hK' _ _ this
end

/-- 'copy(d, s)' of as many bytes as d has room for, into the middle of a row that begins at o0; what lies ahead stays -/
theorem step_copyO {ops : Array Oper} {o : Oper} {a : Act} {Q : Exit → Act → World → Prop} {K : Act → World → Prop} {E : Prop} (w : World) (hg : o.guard = none) (d : Option Tmp) (hd : o.dst = d) (x y : Operand) (hop : o.op = .call { callee := .builtin .copy, args := #[x, y], argTypes := #[22, 22] })
    (b o0 s n dc : Nat) (v : Value) (xs ys : List Int) (q : Nat) (hq : q = o0 + s) (hx : a.eval x = .slice (some ⟨b, q, none⟩) n dc) (hy : a.eval y = v) (hb : Byt w v ys) (hA : Ar w b o0 .u8 xs) (hn : ys.length = n) (hl : s + n ≤ xs.length)
    (hK : ∀ w', Ar w' b o0 .u8 (laid xs s ys) → Below b w w' → (∀ p, p < o0 → w'.cell? ⟨b, p, none⟩ = w.cell? ⟨b, p, none⟩) → K (a.put d (.int .i64 (n : Int))) w') :
    if Region.wanted o (yielded ops a.tmps) = true then Oper.wp Try.prog o a w K Q else E := by
  have hw : Region.wanted o (yielded ops a.tmps) = true := by simp [Region.wanted, hg]
  rw [if_pos hw]
  subst hd
  subst hq
  obtain ⟨ao, cap, rfl, h1, h2, h3, h4, h5⟩ := hb
  have e : min ys.length n = n := by omega
  have hrun := run_copyG w b (o0 + s) n dc ao ys cap o.type h5 (by
    rw [e]
    intro j hj
    have := hA.2 (s + j) (by omega)
    rwa [← Nat.add_assoc] at this)
  rw [e, List.take_of_length_le (by omega)] at hrun
  unfold Oper.wp execOp
  simp only [hop, resolve, invoke, builtin, Sem.run_bind, Sem.run_pure, Result.andThen_ok, List.map_toArray, List.map_cons, List.map_nil, hx, hy, hrun]
  refine hK _ (hA.lay s ys (by omega)) (below_cells _ (Nat.le_refl _) _ _ (Below.refl _ _)) fun p hp => ?_
  exact World.cell?_setCells_out _ _ _ _ _ (fun _ _ => by left; show p < o0 + s; omega)

set_option linter.unusedSimpArgs false in
set_option maxRecDepth 20000 in
set_option maxHeartbeats 4000000 in
theorem new_any (v : Value) (key : List Int) (w : World) (hv : Byt w v key) (hl : key.length = 32) :
    Calls Try.prog 15 #[v] w fun e w' => ∃ kb, e = .returned (.tuple #[.pointer (some ⟨kb, 0, none⟩), .int .i64 0]) ∧ KeyA w' kb key ∧ w.heap.size ≤ kb ∧ Below w.heap.size w w' := by
  have ha := hv.all
  have HE : Hid (Calls Try.prog 30 #[v] w fun e w' => ∃ g, e = .returned (.tuple #[.slice (some ⟨g, 0, none⟩) 60 60, .int .i64 0]) ∧ Ar w' g 0 .u32 (prw key 60) ∧ w.heap.size ≤ g ∧ Below w.heap.size w w') := exp_any v key w hv hl
  have HG : Hid (∀ k, k < 60 → ∀ w0, Calls Try.prog 31 #[.int .u64 (wn key k : Int), .int .i64 4] w0 fun e w' => ∃ v, e = .returned v ∧ Byt w' v (wd key k) ∧ Below w0.heap.size w0 w') := fun k hk w0 => by
    have h1 := wn_lt key hl ha k
    have := big_any (wn key k : Int) 4 w0 (by omega)
    rw [show clamp 4 8 = 4 by decide, wn, be4n _ (wd_wd key hl ha k)] at this
    exact this
  have HW4 : Hid (∀ k, (wd key k).length = 4) := fun k => (wd_wd key hl ha k).1
  have HWL : Hid (∀ k, wn key k < 4294967296) := wn_lt key hl ha
  have HF : Hid (∀ k, k < 60 → laid (filled (rks key) (4 * k)) (4 * k) (wd key k) = filled (rks key) (4 * (k + 1))) := fun k hk => by
    rw [← rks_cut key hl ha k hk]; exact filled_cut _ _ (by rw [rks_len]; omega)
  have HF0 : Hid (filled (rks key) 0 = List.replicate 240 0 ∧ filled (rks key) 240 = rks key) := ⟨by rw [filled_zero, rks_len], by have := filled_end (rks key); rwa [rks_len] at this⟩
  obtain ⟨ao, ca, rfl, -, -, -, -, -⟩ := hv
  clear hl ha
  go_enter Try.func15, Try.ntmps15
  go_wp2_with (first
    | (go_at_call 30; refine (HE.out).mono ?_; rintro e w1 ⟨g, rfl, A1, L1, B1⟩; have HA1 : Hid (Ar w1 g 0 .u32 (prw key 60)) := A1; have lg : g < w1.heap.size := A1.lt (by rw [prw_len]; omega); clear A1)
    | (have q1 := lg; refine build_law _ rfl 53 _ rfl (.agg kz.toArray) (by kernel_rfl) ?_)
    | (have q1 := lg; refine box_lawK _ rfl (.tmp 17) 53 rfl rfl ?_; intro w2 C2 A2 B2 s2; have HC2 : Hid (w2.cell? ⟨w1.heap.size, 0, none⟩ = some (.bool true)) := C2; have HA2 : Hid (Ar w2 w1.heap.size 1 .u8 (List.replicate 240 0)) := A2; clear C2 A2))
  have D1 : Hid (Ar w2 g 0 .u32 (prw key 60)) := HA1.out.below B2 lg
  have z1 := B1.size
  generalize hkb : w1.heap.size = kb at *
  go_loopw [21] (fun i wr => ∃ k : Nat, k ≤ 60 ∧ i = .int .i64 k ∧ wr.cell? ⟨kb, 0, none⟩ = some (.bool true) ∧ Ar wr kb 1 .u8 (filled (rks key) (4 * k)) ∧ Below kb w1 wr ∧ kb < wr.heap.size) (fun i _ => 60 - (intOf i).toNat)
  case atStart => exact ⟨0, Nat.zero_le _, rfl, HC2.out, by rw [Nat.mul_zero, HF0.out.1]; exact HA2.out, B2, s2⟩
  case round =>
    obtain ⟨k, hk, rfl, hC, hA, hB, hS⟩ := hrel
    have k0 : (0 : Int) ≤ (k : Int) := by omega
    have q1 : IntKind.i64.wrap (k : Int) = k := by rw [IntKind.wrap_i64]; omega
    by_cases hlt : k < 60
    · have k1 : (k : Int) < 60 := by omega
      have c1 := (HA1.out.below hB lg).cell0 k (by rw [prw_len]; omega)
      rw [gb_prw _ _ _ hlt, if_pos hlt] at c1
      have HGk := HG.out k hlt
      have W4 : Hid ((wd key k).length = 4) := HW4.out k
      have u1 : IntKind.u64.wrap (wn key k : Int) = (wn key k : Int) := by have := HWL.out k; rw [IntKind.wrap_u64]; omega
      have FC : Hid (laid (filled (rks key) (4 * k)) (4 * k) (wd key k) = filled (rks key) (4 * (k + 1))) := HF.out k hlt
      have HGK : Hid (∀ w0, Calls Try.prog 31 #[.int .u64 (wn key k : Int), .int .i64 4] w0 fun e w' => ∃ v, e = .returned v ∧ Byt w' v (wd key k) ∧ Below w0.heap.size w0 w') := HGk
      obtain ⟨kq, hkq⟩ : ∃ q, q = k / 4 := ⟨_, rfl⟩
      obtain ⟨kr, hkr⟩ : ∃ r, r = k % 4 := ⟨_, rfl⟩
      have d1 : (k : Int).tdiv 4 = (kq : Int) := by rw [Int.tdiv_eq_ediv_of_nonneg (by omega)]; omega
      have d2 : (k : Int).tmod 4 = (kr : Int) := by rw [Int.tmod_eq_emod_of_nonneg (by omega)]; omega
      have d3 : IntKind.i64.wrap (kq : Int) = kq := by rw [IntKind.wrap_i64]; omega
      have d4 : IntKind.i64.wrap (kr : Int) = kr := by rw [IntKind.wrap_i64]; omega
      have d5 : (0 : Int) ≤ (kq : Int) := by omega
      have d6 : (kq : Int) < 15 := by omega
      have d7 : (0 : Int) ≤ (kr : Int) := by omega
      have d8 : (kr : Int) < 4 := by omega
      have HQ : Hid (1 + kq * 16 + kr * 4 = 1 + 4 * k) := by show _ = _; omega
      have HC : Hid (wr.cell? ⟨kb, 0, none⟩ = some (.bool true)) := hC
      have HA : Hid (Ar wr kb 1 .u8 (filled (rks key) (4 * k))) := hA
      have HB : Hid (Below kb w1 wr) := hB
      clear hC hA hB HGk hkq hkr
      generalize wd key k = xs at *
      generalize wn key k = x at *
      go_wp2
      refine wp_region_any (by kernel_rfl) ?_
      change wpAny _ _ _ _ _ _ _ (World.drew _)
      refine take_lawG 0 (some 26) (.pointer (some ⟨kb, 0, none⟩)) rfl rfl (by kernel_rfl) (by kernel_rfl) (by kernel_rfl) (fun _ _ _ h => h) (Or.inl ⟨by rfl, fun w' => by rfl⟩) ?_
      simp only [Act.put, List.setIfInBounds_toArray, List.set_cons_zero, List.set_cons_succ]
      refine take_lawG 1 (some 27) (.int .i64 (k : Int)) rfl rfl (by kernel_rfl) (by kernel_rfl) (by kernel_rfl) (fun _ _ _ h => h) (Or.inl ⟨by rfl, fun w' => by rfl⟩) ?_
      simp only [Act.put, List.setIfInBounds_toArray, List.set_cons_zero, List.set_cons_succ]
      refine take_lawG 2 (some 28) (.int .i64 (kq : Int)) rfl rfl (by kernel_rfl) (by kernel_rfl) (by kernel_rfl) (fun _ _ _ h => h) (Or.inl ⟨by rfl, fun w' => by go_simp⟩) ?_
      simp only [Act.put, List.setIfInBounds_toArray, List.set_cons_zero, List.set_cons_succ]
      refine take_lawG 3 (some 29) (.int .i64 (k : Int)) rfl rfl (by kernel_rfl) (by kernel_rfl) (by kernel_rfl) (fun _ _ _ h => h) (Or.inl ⟨by rfl, fun w' => by rfl⟩) ?_
      simp only [Act.put, List.setIfInBounds_toArray, List.set_cons_zero, List.set_cons_succ]
      refine take_lawG 4 (some 30) (.int .i64 (kr : Int)) rfl rfl (by kernel_rfl) (by kernel_rfl) (by kernel_rfl) (fun _ _ _ h => h) (Or.inl ⟨by rfl, fun w' => by go_simp⟩) ?_
      simp only [Act.put, List.setIfInBounds_toArray, List.set_cons_zero, List.set_cons_succ]
      refine take_lawG 5 (some 31) (.pointer (some ⟨kb, 0, none⟩)) rfl rfl (by kernel_rfl) (by kernel_rfl) (by kernel_rfl) (fun _ _ _ h => h) (Or.inl ⟨by rfl, fun w' => by rfl⟩) ?_
      simp only [Act.put, List.setIfInBounds_toArray, List.set_cons_zero, List.set_cons_succ]
      refine take_lawG 6 (some 32) (.pointer (some ⟨kb, 1, none⟩)) rfl rfl (by kernel_rfl) (by kernel_rfl) (by kernel_rfl) (fun _ _ _ h => h) (Or.inl ⟨by rfl, fun w' => by rfl⟩) ?_
      simp only [Act.put, List.setIfInBounds_toArray, List.set_cons_zero, List.set_cons_succ]
      refine take_lawG 7 (some 33) (.pointer (some ⟨kb, 1 + kq * 16, none⟩)) rfl rfl (by kernel_rfl) (by kernel_rfl) (by kernel_rfl) (fun _ _ _ h => h) (Or.inl ⟨by rfl, fun w' => by go_simp⟩) ?_
      simp only [Act.put, List.setIfInBounds_toArray, List.set_cons_zero, List.set_cons_succ]
      refine take_lawG 8 (some 34) (.pointer (some ⟨kb, 1 + kq * 16 + kr * 4, none⟩)) rfl rfl (by kernel_rfl) (by kernel_rfl) (by kernel_rfl) (fun _ _ _ h => h) (Or.inl ⟨by rfl, fun w' => by go_simp⟩) ?_
      simp only [Act.put, List.setIfInBounds_toArray, List.set_cons_zero, List.set_cons_succ]
      refine take_lawG 9 (some 35) (.slice (some ⟨kb, 1 + kq * 16 + kr * 4, none⟩) 4 4) rfl rfl (by kernel_rfl) (by kernel_rfl) (by kernel_rfl) (fun _ _ _ h => h) (Or.inl ⟨by rfl, fun w' => by go_simp⟩) ?_
      simp only [Act.put, List.setIfInBounds_toArray, List.set_cons_zero, List.set_cons_succ]
      refine take_lawG 10 (some 36) (.int .u32 (x : Int)) rfl rfl (by kernel_rfl) (by kernel_rfl) (by kernel_rfl) (fun _ _ _ h => h) (Or.inl ⟨by rfl, fun w' => by rfl⟩) ?_
      simp only [Act.put, List.setIfInBounds_toArray, List.set_cons_zero, List.set_cons_succ]
      refine take_lawG 11 (some 37) (.int .u64 (x : Int)) rfl rfl (by kernel_rfl) (by kernel_rfl) (by kernel_rfl) (fun _ _ _ h => h) (Or.inl ⟨by rfl, fun w' => by go_simp⟩) ?_
      simp only [Act.put, List.setIfInBounds_toArray, List.set_cons_zero, List.set_cons_succ]
      refine wpAny_ready (rs := [12]) (by kernel_rfl) (by simp) ?_
      refine AllReady.cons rfl (fun K hK => ?_) AllReady.nil
      refine step_callG _ rfl (some 38) rfl 31 #[.tmp 37, .const (.int .i64 4)] #[56, 3] rfl (fun q w' => by rfl) #[.int .u64 (x : Int), .int .i64 4] (by simp only [List.map_toArray, List.map_cons, List.map_nil]; rfl) _ (HGK.out _) fun v3 w3 h3 => hK _ _ ?_
      obtain ⟨Y3, B3⟩ := h3
      have hS' : kb < wr.drew.heap.size := hS
      have HC3 : w3.cell? ⟨kb, 0, none⟩ = some (.bool true) := by
        rw [World.cell?_of_block (w := wr.drew) (w' := w3) (a := ⟨kb, 0, none⟩) (B3.block kb hS')]; exact HC.out
      have HA3 : Ar w3 kb 1 .u8 (filled (rks key) (4 * k)) := (HA.out.drewN 1).below B3 hS'
      have HB3 : Below kb w1 w3 := (below_drewN HB.out 1).trans (B3.mono (by have : kb < wr.heap.size := hS; show kb ≤ wr.heap.size; omega))
      simp only [Act.put, List.setIfInBounds_toArray, List.set_cons_zero, List.set_cons_succ]
      refine wpAny_ready (rs := [13]) (by kernel_rfl) (by simp) ?_
      refine AllReady.cons rfl (fun K hK => ?_) AllReady.nil
      refine step_copyO _ rfl (some 39) rfl (.tmp 35) (.tmp 38) rfl kb 1 (4 * k) 4 4 _ _ xs _ HQ.out rfl rfl Y3 HA3 W4.out (by rw [filled_len, rks_len]; omega) fun w4 A4 B4 C4 => hK _ _ ?_
      rw [FC.out] at A4
      have HA4 : Hid (Ar w4 kb 1 .u8 (filled (rks key) (4 * (k + 1)))) := A4
      have HC4 : Hid (w4.cell? ⟨kb, 0, none⟩ = some (.bool true)) := by show _ = _; rw [C4 0 (by omega)]; exact HC3
      have HB4 : Hid (Below kb w1 w4) := HB3.trans B4
      have hS4 : kb < w4.heap.size := A4.lt (by rw [filled_len, rks_len]; omega)
      clear A4 B4 C4 HC3 HA3 HB3 Y3 B3
      simp only [Act.put, List.setIfInBounds_toArray, List.set_cons_zero, List.set_cons_succ]
      refine wpAny_done (by kernel_rfl) ?_ _
      go_wp2
      go_roundw
      case rel => exact ⟨k + 1, by omega, by go_num, HC4.out, HA4.out, HB4.out, hS4⟩
      case measure => simp [intOf]; omega
    · have hk60 : k = 60 := by omega
      subst hk60
      rw [show 4 * 60 = 240 from rfl, HF0.out.2] at hA
      go_wp2
      go_ret2
      exact ⟨kb, rfl, ⟨hC, hA⟩, by omega, B1.trans (hB.mono (by omega))⟩

set_option maxHeartbeats 1000000 in
theorem exp_no (v : Value) (xs : List Int) (w : World) (hv : Byt w v xs) (hl : ¬ xs.length = 32) :
    Calls Try.prog 30 #[v] w fun e w' => e = .returned (.tuple #[.slice none 0 0, .int .i64 2]) ∧ w' = w := by
  obtain ⟨ao, ca, rfl, ha1, ha2, -, -, -⟩ := hv
  have h1 : ¬ ((xs.length : Int) = 32) := by omega
  clear hl
  generalize xs.length = n at *
  go_enter Try.func30, Try.ntmps30
  go_wp2
  go_ret2
  exact ⟨rfl, rfl⟩
set_option maxHeartbeats 1000000 in
theorem new_no (v : Value) (xs : List Int) (w : World) (hv : Byt w v xs) (hl : ¬ xs.length = 32) :
    Calls Try.prog 15 #[v] w fun e w' => e = .returned (.tuple #[.pointer none, .int .i64 2]) ∧ w' = w := by
  have H : Hid (Calls Try.prog 30 #[v] w fun e w' => e = .returned (.tuple #[.slice none 0 0, .int .i64 2]) ∧ w' = w) := exp_no v xs w hv hl
  go_enter Try.func15, Try.ntmps15
  go_wp2_with (go_at_call 30; refine H.out.mono ?_; rintro e w1 ⟨rfl, hw⟩; obtain rfl := hw.symm)
  go_ret2
  exact ⟨rfl, rfl⟩
end Go.Proofs.Ytjiddmgnkldmkaa
