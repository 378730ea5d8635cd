/- What mac's Block, New and padded answer. No claim of its own. -/
import Derived.Test.YtaplllonomdgeaaShaComp
import Derived.Test.YtaplllonomdgeaaXor
import Derived.Test.YtaplllonomdgeaaRefSum
namespace Go.Proofs.Ytaplllonomdgeaa
open Go.RowKit

/-- a key's bytes, or its sum if there are more than 64 -/
def kb (xs : List Int) : List Int := if xs.length ≤ 64 then xs else sumOf xs
/-- a key's block -/
def blk (xs : List Int) : List Int := kb xs ++ List.replicate (64 - (kb xs).length) 0
theorem kb_len (xs : List Int) : (kb xs).length ≤ 64 := by
  unfold kb
  split
  · assumption
  · rw [sumOf_len]; omega
theorem kb_all (xs : List Int) (h : AllB xs) : AllB (kb xs) := by
  unfold kb
  split
  · exact h
  · exact sumOf_all _
theorem blk_len (xs : List Int) : (blk xs).length = 64 := by
  have := kb_len xs
  simp [blk]; omega
theorem blk_all (xs : List Int) (h : AllB xs) : AllB (blk xs) := allB_append (kb_all xs h) (allB_mem fun x hx => by
  have := List.eq_of_mem_replicate hx
  omega)
theorem blk_laid (xs : List Int) : laid z64 0 (kb xs) = blk xs := by
  unfold laid blk z64
  rw [List.take_zero, List.nil_append, Nat.zero_add, List.drop_replicate]
theorem z64_all : AllB z64 := allB_mem fun x hx => by
  have := List.eq_of_mem_replicate hx
  omega

section
variable {ops : Array Oper} {rest : List Oper} {o : Oper} {a : Act} {Q : Exit → Act → World → Prop}
/-- 'copy(d, s)' of bytes that fit into d; the world gets a name -/
theorem copy_lawP (w : World) (hg : o.guard = none) (x y : Operand) (hop : o.op = .call { callee := .builtin .copy, args := #[x, y], argTypes := #[22, 22] })
    (b n dc : Nat) (v : Value) (xs ys : List Int) (hx : a.eval x = .slice (some ⟨b, 0, none⟩) n dc) (hy : a.eval y = v) (hb : Byt w v ys) (hA : Ar w b 0 .u8 xs) (hl : xs.length = n) (hn : ys.length ≤ n)
    (hK : ∀ w', Ar w' b 0 .u8 (laid xs 0 ys) → Below b w w' → wpList Try.prog ops Q rest (a.put o.dst (.int .i64 (ys.length : Int))) w') :
    wpList Try.prog ops Q (o :: rest) a w := by
  have e : min ys.length n = ys.length := by omega
  refine copy_law w hg x y hop b 0 n dc v ys hx hy hb (by rw [e]; intro j hj; exact hA.2 j (by omega)) ?_
  rw [e, List.take_of_length_le (by omega)]
  have := hA.lay 0 ys (by omega)
  exact hK _ this (Lib.below_setCells _ (Nat.le_refl _) _ _ (Below.refl _ _))
/-- a value gets a place; the world gets a name -/
theorem box_lawF (w : World) (hg : o.guard = none) (x : Operand) (t : TypeId) (hop : o.op = Op.box t x) (k : IntKind) (xs : List Int) (hx : a.eval x = .agg (ints k xs))
    (hK : ∀ w', Ar w' w.heap.size 0 k xs → Below w.heap.size w w' → w.heap.size < w'.heap.size → wpList Try.prog ops Q rest (a.put o.dst (.pointer (some ⟨w.heap.size, 0, none⟩))) w') :
    wpList Try.prog ops Q (o :: rest) a w :=
  box_law w hg x t hop k xs hx (hK _ (Ar.new w t k xs) ((Below.refl _ _).alloc (Nat.le_refl _) _) (by simp))
end

set_option maxHeartbeats 2000000 in
theorem mblock_any (w : World) (v : Value) (xs : List Int) (h : Byt w v xs) (hn : xs.length ≤ 1000000) :
    Calls Try.prog 22 #[v] w fun e w' => ∃ g, e = .returned (.slice (some ⟨g, 0, none⟩) 64 64) ∧ w.heap.size ≤ g ∧ Ar w' g 0 .u8 (blk xs) ∧ Below w.heap.size w w' := by
  have HV : Hid (Byt w v xs) := h
  have HKL : Hid ((kb xs).length ≤ 64) := kb_len xs
  have HBL : Hid (laid z64 0 (kb xs) = blk xs) := blk_laid xs
  have HS : Hid (∀ w0, Byt w0 v xs → Calls Try.prog 31 #[v] w0 fun e w' => ∃ v', e = .returned v' ∧ Byt w' v' (sumOf xs) ∧ Below w0.heap.size w0 w') := fun w0 h => (sum_any w0 v xs h hn).mono fun _ _ ⟨v', he, hb, _, hbl⟩ => ⟨v', he, hb, hbl⟩
  obtain ⟨ao, cap, rfl, hv1, hv2, -, -, -⟩ := h
  by_cases h64 : xs.length ≤ 64
  · have HK : Hid (kb xs = xs) := if_pos h64
    obtain ⟨n, hnx⟩ : ∃ n, n = xs.length := ⟨_, rfl⟩
    rw [← hnx] at h64 hv1 HV hn HS ⊢
    clear hnx HS
    have l1 : ¬ 64 < (n : Int) := by omega
    go_enter Try.func22, Try.ntmps22
    go_wp2_with (first
      | (at_make; refine make_law _ rfl _ _ rfl w.heap.size (Nat.le_refl _) _ 64 rfl rfl rfl (by omega) ?_; intro w1 hown b1 l1'; have HA1 : Hid (Ar w1 w.heap.size 0 .u8 z64) := hown.ar; have HV1 : Hid (Byt w1 (.slice ao n cap) (kb xs)) := by { have := HV.out.below b1; rw [HK.out]; exact this }; clear hown)
      | (refine copy_lawP _ rfl (.tmp 10) (.tmp 11) rfl w.heap.size 64 64 _ z64 (kb xs) rfl rfl HV1.out HA1.out rfl HKL.out ?_; intro w2 A2 b2; rw [HBL.out] at A2; have HA2 : Hid (Ar w2 w.heap.size 0 .u8 (blk xs)) := A2; clear A2))
    go_ret
    exact ⟨_, rfl, Nat.le_refl _, HA2.out, b1.trans b2⟩
  · have HK : Hid (kb xs = sumOf xs) := if_neg h64
    obtain ⟨n, hnx⟩ : ∃ n, n = xs.length := ⟨_, rfl⟩
    rw [← hnx] at h64 hv1 HV hn HS ⊢
    clear hnx
    have l1 : 64 < (n : Int) := by omega
    go_enter Try.func22, Try.ntmps22
    go_wp2_with (first
      | (go_at_call 31; refine (HS.out _ HV.out).mono ?_; rintro e w0 ⟨v0, rfl, hv0, b0⟩; have HV0 : Hid (Byt w0 v0 (sumOf xs)) := hv0; clear hv0; have s0 := b0.size)
      | (at_make; refine make_law _ rfl _ _ rfl w0.heap.size (Nat.le_refl _) _ 64 rfl rfl rfl (by omega) ?_; intro w1 hown b1 l1'; have HA1 : Hid (Ar w1 w0.heap.size 0 .u8 z64) := hown.ar; have HV1 : Hid (Byt w1 v0 (kb xs)) := by { have := HV0.out.below b1; rw [HK.out]; exact this }; clear hown)
      | (refine copy_lawP _ rfl (.tmp 10) (.tmp 11) rfl w0.heap.size 64 64 _ z64 (kb xs) rfl rfl HV1.out HA1.out rfl HKL.out ?_; intro w2 A2 b2; rw [HBL.out] at A2; have HA2 : Hid (Ar w2 w0.heap.size 0 .u8 (blk xs)) := A2; clear A2))
    go_ret
    exact ⟨_, rfl, s0, HA2.out, b0.trans ((b1.trans b2).mono s0)⟩

theorem z_key : (Try.prog.info? 44).map (fun i => (i.zero, i.size)) = some (some (.agg (ints .u8 z64)), z64.length) := by kernel_rfl

set_option maxHeartbeats 2000000 in
theorem mnew_any (w : World) (v : Value) (xs : List Int) (h : Byt w v xs) (hn : xs.length ≤ 1000000) :
    Calls Try.prog 17 #[v] w fun e w' => ∃ c, e = .returned (.pointer (some ⟨c, 0, none⟩)) ∧ w.heap.size ≤ c ∧ Ar w' c 0 .u8 (blk xs) ∧ Below w.heap.size w w' := by
  have HV : Hid (Byt w v xs) := h
  have HAB : Hid (AllB (blk xs)) := blk_all xs h.all
  have HL : Hid ((blk xs).length = 64) := blk_len xs
  have HMB : Hid (∀ w0, Byt w0 v xs → Calls Try.prog 22 #[v] w0 fun e w' => ∃ g, e = .returned (.slice (some ⟨g, 0, none⟩) 64 64) ∧ w0.heap.size ≤ g ∧ Ar w' g 0 .u8 (blk xs) ∧ Below w0.heap.size w0 w') := fun w0 h => mblock_any w0 v xs h hn
  generalize blk xs = bx at *
  clear h hn
  go_enter Try.func17, Try.ntmps17
  go_wp2_with (first
    | (refine build_law _ rfl 44 _ rfl (.agg (ints .u8 z64)) (by kernel_rfl) ?_)
    | (refine box_lawF _ rfl (.tmp 4) 44 rfl .u8 z64 rfl ?_; intro w1 A1 B1 s1; have HA1 : Hid (Ar w1 w.heap.size 0 .u8 z64) := A1; clear A1))
  have HT : Hid (w1.there w.heap.size 0 64) := HA1.out.2
  have HV1 : Hid (Byt w1.drew v xs) := (HV.out.below B1).below (Below.refl _ _).drew
  go_region_held3 (fun w' => w'.there w.heap.size 0 64)
    (first | with_reducible exact World.there_setCells T1 _ _ _ | with_reducible exact T1 | with_reducible exact (World.there_drew ..).2 HT.out)
    (first
      | (go_at_call 22; refine (HMB.out _ HV1.out).mono ?_; rintro e w3 ⟨g, rfl, hg, hA3, hb3⟩; have HA3 : Ar w3 w.heap.size 0 .u8 z64 := Ar.below (w := w1.drew) (HA1.out.heap rfl) hb3 s1; have T1 : w3.there w.heap.size 0 64 := HA3.2; have hv3 : Byt w3 (.slice (some ⟨g, 0, none⟩) 64 64) bx := by { have := hA3.byt HAB.out 0 64 64 (by omega) (by rw [HL.out]; omega) (by omega) (by omega); rw [List.take_of_length_le (by rw [HL.out]; omega), List.drop_zero] at this; exact this })
      | (refine step_copy _ rfl (some 12) rfl (.tmp 9) (.tmp 11) rfl w.heap.size 0 64 64 (.slice (some ⟨g, 0, none⟩) 64 64) bx rfl rfl hv3 (by rw [HL.out]; intro j hj; exact T1 j (by omega)) ?_)
      | fail)
  have A4 : Ar (w3.setCells w.heap.size 0 ((bx.take 64).map (Value.int .u8))) w.heap.size 0 .u8 bx := by
    rw [List.take_of_length_le (by rw [HL.out]; omega)]
    exact Ar.whole (by rw [HL.out]; exact T1)
  have B4 : Below w.heap.size w (w3.setCells w.heap.size 0 ((bx.take 64).map (Value.int .u8))) := Lib.below_setCells _ (Nat.le_refl _) _ _ (B1.drew.trans (hb3.mono B1.size))
  generalize w3.setCells w.heap.size 0 ((bx.take 64).map (Value.int .u8)) = w4 at A4 B4 ⊢
  have HA4 : Hid (Ar w4 w.heap.size 0 .u8 bx) := A4
  clear A4
  go_wp2
  go_ret
  exact ⟨_, rfl, Nat.le_refl _, HA4.out, B4⟩

/-- bl, xored with ys as far as place k -/
def xp (bl ys : List Int) (k : Nat) : List Int := (xorl bl ys).take k ++ bl.drop k
theorem xp_len (bl ys : List Int) (h : bl.length = ys.length) (k : Nat) (hk : k ≤ bl.length) : (xp bl ys k).length = bl.length := by
  have := xorl_len bl ys h
  simp [xp, this]; omega
theorem xp_gb (bl ys : List Int) (h : bl.length = ys.length) (k : Nat) (hk : k < bl.length) : gb (xp bl ys k) k = gb bl k := by
  have hl := xorl_len bl ys h
  have e : ((xorl bl ys).take k).length = k := by simp [hl]; omega
  unfold gb xp
  rw [List.getD_eq_getElem?_getD, List.getElem?_append_right (by omega), e, Nat.sub_self, List.getElem?_drop, Nat.add_zero]
  rfl
theorem xp_set (bl ys : List Int) (h : bl.length = ys.length) (k : Nat) (hk : k < bl.length) : (xp bl ys k).set k (xr (gb bl k) (gb ys k)) = xp bl ys (k + 1) := by
  have hl := xorl_len bl ys h
  have e : ((xorl bl ys).take k).length = k := by simp [hl]; omega
  unfold xp
  rw [List.set_append_right _ _ (by omega), e, Nat.sub_self, xorl_take bl ys h k hk, List.drop_eq_getElem_cons hk, List.set_cons_zero]
  simp
theorem xp_zero (bl ys : List Int) : xp bl ys 0 = bl := by simp [xp]
theorem xp_end (bl ys : List Int) (h : bl.length = ys.length) : xp bl ys bl.length = xorl bl ys := by
  have hl := xorl_len bl ys h
  unfold xp
  rw [List.drop_length, List.append_nil, List.take_of_length_le (by omega)]
/-- a block, xored with a byte -/
def pdd (bl : List Int) (p : Int) : List Int := xorl bl (List.replicate 64 p)
theorem pdd_len (bl : List Int) (p : Int) (h : bl.length = 64) : (pdd bl p).length = 64 := by
  unfold pdd; rw [xorl_len _ _ (by simpa using h), h]
theorem gb_rep (p : Int) (k : Nat) (h : k < 64) : gb (List.replicate 64 p) k = p := by
  unfold gb
  rw [List.getD_eq_getElem?_getD, List.getElem?_replicate, if_pos h]; rfl
theorem rep_all (p : Int) (hp : 0 ≤ p ∧ p ≤ 255) : AllB (List.replicate 64 p) := allB_mem fun x hx => by
  have := List.eq_of_mem_replicate hx
  omega
theorem pdd_all (bl : List Int) (p : Int) (h : bl.length = 64) (ha : AllB bl) (hp : 0 ≤ p ∧ p ≤ 255) : AllB (pdd bl p) := xorl_all _ _ (by simpa using h) ha (rep_all p hp)

/-- the key that a pointer tells: a nil one is that of no bytes -/
def KeyV (w : World) (kv : Value) (bl : List Int) : Prop := (kv = .pointer none ∧ bl = z64) ∨ ∃ c, kv = .pointer (some ⟨c, 0, none⟩) ∧ Ar w c 0 .u8 bl ∧ bl.length = 64 ∧ AllB bl
theorem KeyV.len {w : World} {kv : Value} {bl : List Int} (h : KeyV w kv bl) : bl.length = 64 := by
  rcases h with ⟨_, rfl⟩ | ⟨_, _, _, h, _⟩
  · rfl
  · exact h
theorem KeyV.all {w : World} {kv : Value} {bl : List Int} (h : KeyV w kv bl) : AllB bl := by
  rcases h with ⟨_, rfl⟩ | ⟨_, _, _, _, h⟩
  · exact z64_all
  · exact h
theorem KeyV.below {w w' : World} {kv : Value} {bl : List Int} (h : KeyV w kv bl) (hb : Below w.heap.size w w') : KeyV w' kv bl := by
  rcases h with h | ⟨c, h1, h2, h3, h4⟩
  · exact Or.inl h
  · exact Or.inr ⟨c, h1, h2.below hb (h2.lt (by omega)), h3, h4⟩

set_option maxHeartbeats 2000000 in
theorem padded_any (w : World) (kv : Value) (bl : List Int) (p : Int) (hkv : KeyV w kv bl) (hp : 0 ≤ p ∧ p ≤ 255) :
    Calls Try.prog 34 #[kv, .int .u8 p] w fun e w' => ∃ g, e = .returned (.slice (some ⟨g, 0, none⟩) 64 64) ∧ w.heap.size ≤ g ∧ Ar w' g 0 .u8 (pdd bl p) ∧ Below w.heap.size w w' := by
  have HL : Hid (bl.length = 64) := hkv.len
  have HA : Hid (AllB bl) := hkv.all
  have HP : Hid (0 ≤ p ∧ p ≤ 255) := hp
  have HX : Hid (∀ k, k < 64 → (xp bl (List.replicate 64 p) k).length = 64 ∧ gb (xp bl (List.replicate 64 p) k) k = gb bl k ∧ (xp bl (List.replicate 64 p) k).set k (xr (gb bl k) p) = xp bl (List.replicate 64 p) (k + 1)) := fun k hk => by
    have e : bl.length = (List.replicate 64 p).length := by simpa using HL.out
    refine ⟨by rw [xp_len _ _ e k (by rw [HL.out]; omega), HL.out], xp_gb _ _ e k (by rw [HL.out]; omega), ?_⟩
    have := xp_set _ _ e k (by rw [HL.out]; omega)
    rwa [gb_rep p k hk] at this
  have HX0 : Hid (xp bl (List.replicate 64 p) 0 = bl) := xp_zero _ _
  have HX1 : Hid (xp bl (List.replicate 64 p) 64 = pdd bl p) := by
    have := xp_end bl (List.replicate 64 p) (by simpa using HL.out)
    rw [HL.out] at this
    exact this
  generalize xp bl (List.replicate 64 p) = X at *
  generalize pdd bl p = R at *
  rcases hkv with ⟨rfl, rfl⟩ | ⟨c, rfl, hAc, -, -⟩
  · go_enter Try.func34, Try.ntmps34
    go_wp2_with (refine new_lawF _ rfl 42 rfl .u8 z64 z_arr64b ?_; intro w1 A1 B1 s1; have HA1 : Hid (Ar w1 w.heap.size 0 .u8 z64) := A1; clear A1)
    go_loopw [13] (fun i wr => ∃ k : Nat, k ≤ 64 ∧ i = .int .i64 k ∧ Ar wr w.heap.size 0 .u8 (X k) ∧ Below w.heap.size w wr) (fun i _ => 64 - (intOf i).toNat)
    case atStart => exact ⟨0, Nat.zero_le _, rfl, by rw [HX0.out]; exact HA1.out, B1⟩
    case round =>
      obtain ⟨k, hk, rfl, hA', hbel⟩ := hrel
      have k0 : (0 : Int) ≤ (k : Int) := by omega
      have q1 : IntKind.i64.wrap (k : Int) = k := by rw [IntKind.wrap_i64]; omega
      by_cases hlt : k < 64
      · have k1 : (k : Int) < 64 := by omega
        obtain ⟨hx1, hx2, hx3⟩ := HX.out k hlt
        have c0 := hA'.cell0 k (by omega)
        have f0 := hA'.free0 k (by omega)
        rw [hx2] at c0
        have hx : bits .xor .u8 (gb z64 k) p = xr (gb z64 k) p := xr_of _ _ (HA.out k) HP.out
        have A2 := hA'.set0 k (by omega) (xr (gb z64 k) p)
        rw [hx3] at A2
        have HA2 : Hid (Ar (wr.setCell ⟨w.heap.size, k, none⟩ (.int .u8 (xr (gb z64 k) p))) w.heap.size 0 .u8 (X (k + 1))) := A2
        generalize gb z64 k = y at *
        clear A2 hA' hx1 hx2 hx3
        go_wp2
        go_roundw
        case rel => exact ⟨k + 1, by omega, by go_num, HA2.out, hbel.setCell (by show _ ≤ _; simp) _⟩
        case measure => simp [intOf]; omega
      · have : k = 64 := by omega
        subst this
        rw [HX1.out] at hA'
        have HA3 : Hid (Ar wr w.heap.size 0 .u8 R) := hA'
        clear hA'
        go_wp2_with (refine arr_all _ rfl (.tmp 5) 42 rfl w.heap.size 64 rfl und_arr64b len_arr64b (size_arr64b _) ?_)
        go_ret
        exact ⟨_, rfl, Nat.le_refl _, HA3.out, hbel⟩
  · have hcl := hAc.lt (by rw [HL.out]; omega)
    have HAc : Hid (Ar w c 0 .u8 bl) := hAc
    clear hAc
    go_enter Try.func34, Try.ntmps34
    go_wp2_with (first
      | (refine new_lawF _ rfl 42 rfl .u8 z64 z_arr64b ?_; intro w1 A1 B1 s1; have HA1 : Hid (Ar w1 w.heap.size 0 .u8 z64) := A1; clear A1; have HAc1 : Hid (Ar w1 c 0 .u8 bl) := HAc.out.below B1 hcl)
      | (refine load_law _ rfl (.tmp 11) 42 rfl .u8 bl c 0 rfl HAc1.out 64 5 Try.underlying42 i_arr64b HL.out ?_)
      | (refine store_lawF _ rfl (.tmp 5) (.tmp 12) 42 rfl .u8 z64 bl w.heap.size rfl rfl HA1.out 64 i_arr64b rfl HL.out ?_; intro w2 A2 B2; have HA2 : Hid (Ar w2 w.heap.size 0 .u8 bl) := A2; clear A2))
    go_loopw [13] (fun i wr => ∃ k : Nat, k ≤ 64 ∧ i = .int .i64 k ∧ Ar wr w.heap.size 0 .u8 (X k) ∧ Below w.heap.size w wr) (fun i _ => 64 - (intOf i).toNat)
    case atStart => exact ⟨0, Nat.zero_le _, rfl, by rw [HX0.out]; exact HA2.out, B1.trans B2⟩
    case round =>
      obtain ⟨k, hk, rfl, hA', hbel⟩ := hrel
      have k0 : (0 : Int) ≤ (k : Int) := by omega
      have q1 : IntKind.i64.wrap (k : Int) = k := by rw [IntKind.wrap_i64]; omega
      by_cases hlt : k < 64
      · have k1 : (k : Int) < 64 := by omega
        obtain ⟨hx1, hx2, hx3⟩ := HX.out k hlt
        have c0 := hA'.cell0 k (by omega)
        have f0 := hA'.free0 k (by omega)
        rw [hx2] at c0
        have hx : bits .xor .u8 (gb bl k) p = xr (gb bl k) p := xr_of _ _ (HA.out k) HP.out
        have A2 := hA'.set0 k (by omega) (xr (gb bl k) p)
        rw [hx3] at A2
        have HA3 : Hid (Ar (wr.setCell ⟨w.heap.size, k, none⟩ (.int .u8 (xr (gb bl k) p))) w.heap.size 0 .u8 (X (k + 1))) := A2
        generalize gb bl k = y at *
        clear A2 hA' hx1 hx2 hx3
        go_wp2
        go_roundw
        case rel => exact ⟨k + 1, by omega, by go_num, HA3.out, hbel.setCell (by show _ ≤ _; simp) _⟩
        case measure => simp [intOf]; omega
      · have : k = 64 := by omega
        subst this
        rw [HX1.out] at hA'
        have HA3 : Hid (Ar wr w.heap.size 0 .u8 R) := hA'
        clear hA'
        go_wp2_with (refine arr_all _ rfl (.tmp 5) 42 rfl w.heap.size 64 rfl und_arr64b len_arr64b (size_arr64b _) ?_)
        go_ret
        exact ⟨_, rfl, Nat.le_refl _, HA3.out, hbel⟩
end Go.Proofs.Ytaplllonomdgeaa
