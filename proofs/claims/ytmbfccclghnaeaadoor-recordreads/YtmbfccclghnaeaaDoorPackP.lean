/- Texts put together (a claim holds few files). No claim of its own. -/
import Derived.Test.YtmbfccclghnaeaaDoorPackO
import Derived.Test.YtmbfccclghnaeaaDoorPackB
import Derived.Test.YtmbfccclghnaeaaDoorPackN
import Derived.Test.YtmbfccclghnaeaaDoorPackC
import Derived.Deep.DeepHandedRow
import Derived.Lib.LaidTab
import Derived.Deep.Matrix
/- What mac's Block, New and padded answer. No claim of its own. -/
namespace Go.Proofs.YtmbfccclghnaeaaDoor.mc
open Go.RowKit
set_option maxRecDepth 20000

/-- a key's bytes, or its sum if there are more than 64 -/
def kb (xs : List Int) : List Int := if xs.length ≤ 64 then xs else sumOf xs
/-- a key's block -/
def blk (xs : List Int) : List Int := kb xs ++ List.replicate (64 - (kb xs).length) 0
theorem kb_len (xs : List Int) : (kb xs).length ≤ 64 := by
  unfold kb
  split
  · assumption
  · rw [sumOf_len]; omega
theorem kb_all (xs : List Int) (h : AllB xs) : AllB (kb xs) := by
  unfold kb
  split
  · exact h
  · exact sumOf_all _
theorem blk_len (xs : List Int) : (blk xs).length = 64 := by
  have := kb_len xs
  simp [blk]; omega
theorem blk_all (xs : List Int) (h : AllB xs) : AllB (blk xs) := allB_append (kb_all xs h) (allB_mem fun x hx => by
  have := List.eq_of_mem_replicate hx
  omega)
theorem blk_laid (xs : List Int) : laid z64 0 (kb xs) = blk xs := by
  unfold laid blk z64
  rw [List.take_zero, List.nil_append, Nat.zero_add, List.drop_replicate]
theorem z64_all : AllB z64 := allB_mem fun x hx => by
  have := List.eq_of_mem_replicate hx
  omega

section
variable {ops : Array Oper} {rest : List Oper} {o : Oper} {a : Act} {Q : Exit → Act → World → Prop}
/-- 'copy(d, s)' of bytes that fit into d; the world gets a name -/
theorem copy_lawP (w : World) (hg : o.guard = none) (x y : Operand) (hop : o.op = .call { callee := .builtin .copy, args := #[x, y], argTypes := #[23, 23] })
    (b n dc : Nat) (v : Value) (xs ys : List Int) (hx : a.eval x = .slice (some ⟨b, 0, none⟩) n dc) (hy : a.eval y = v) (hb : Byt w v ys) (hA : Ar w b 0 .u8 xs) (hl : xs.length = n) (hn : ys.length ≤ n)
    (hK : ∀ w', Ar w' b 0 .u8 (laid xs 0 ys) → Below b w w' → wpList Tryd.prog ops Q rest (a.put o.dst (.int .i64 (ys.length : Int))) w') :
    wpList Tryd.prog ops Q (o :: rest) a w := by
  have e : min ys.length n = ys.length := by omega
  refine copy_law w hg x y hop b 0 n dc v ys hx hy hb (by rw [e]; intro j hj; exact hA.2 j (by omega)) ?_
  rw [e, List.take_of_length_le (by omega)]
  have := hA.lay 0 ys (by omega)
  exact hK _ this (Lib.below_setCells _ (Nat.le_refl _) _ _ (Below.refl _ _))
/-- a value gets a place; the world gets a name -/
theorem box_lawF (w : World) (hg : o.guard = none) (x : Operand) (t : TypeId) (hop : o.op = Op.box t x) (k : IntKind) (xs : List Int) (hx : a.eval x = .agg (ints k xs))
    (hK : ∀ w', Ar w' w.heap.size 0 k xs → Below w.heap.size w w' → w.heap.size < w'.heap.size → wpList Tryd.prog ops Q rest (a.put o.dst (.pointer (some ⟨w.heap.size, 0, none⟩))) w') :
    wpList Tryd.prog ops Q (o :: rest) a w :=
  box_law w hg x t hop k xs hx (hK _ (Ar.new w t k xs) ((Below.refl _ _).alloc (Nat.le_refl _) _) (by simp))
end

set_option maxHeartbeats 2000000 in
theorem mblock_any (w : World) (v : Value) (xs : List Int) (h : Byt w v xs) (hn : xs.length ≤ 1000000) :
    Calls Tryd.prog 66 #[v] w fun e w' => ∃ g, e = .returned (.slice (some ⟨g, 0, none⟩) 64 64) ∧ w.heap.size ≤ g ∧ Ar w' g 0 .u8 (blk xs) ∧ Below w.heap.size w w' := by
  have HV : Hid (Byt w v xs) := h
  have HKL : Hid ((kb xs).length ≤ 64) := kb_len xs
  have HBL : Hid (laid z64 0 (kb xs) = blk xs) := blk_laid xs
  have HS : Hid (∀ w0, Byt w0 v xs → Calls Tryd.prog 75 #[v] w0 fun e w' => ∃ v', e = .returned v' ∧ Byt w' v' (sumOf xs) ∧ Below w0.heap.size w0 w') := fun w0 h => (sum_any w0 v xs h hn).mono fun _ _ ⟨v', he, hb, _, hbl⟩ => ⟨v', he, hb, hbl⟩
  obtain ⟨ao, cap, rfl, hv1, hv2, -, -, -⟩ := h
  by_cases h64 : xs.length ≤ 64
  · have HK : Hid (kb xs = xs) := if_pos h64
    obtain ⟨n, hnx⟩ : ∃ n, n = xs.length := ⟨_, rfl⟩
    rw [← hnx] at h64 hv1 HV hn HS ⊢
    clear hnx HS
    have l1 : ¬ 64 < (n : Int) := by omega
    go_enter Tryd.func66, Tryd.ntmps66
    go_wp2_with (first
      | (at_make; refine make_law _ rfl _ _ rfl w.heap.size (Nat.le_refl _) _ 64 rfl rfl rfl (by omega) ?_; intro w1 hown b1 l1'; have HA1 : Hid (Ar w1 w.heap.size 0 .u8 z64) := hown.ar; have HV1 : Hid (Byt w1 (.slice ao n cap) (kb xs)) := by { have := HV.out.below b1; rw [HK.out]; exact this }; clear hown)
      | (refine copy_lawP _ rfl (.tmp 10) (.tmp 11) rfl w.heap.size 64 64 _ z64 (kb xs) rfl rfl HV1.out HA1.out rfl HKL.out ?_; intro w2 A2 b2; rw [HBL.out] at A2; have HA2 : Hid (Ar w2 w.heap.size 0 .u8 (blk xs)) := A2; clear A2))
    go_ret
    exact ⟨_, rfl, Nat.le_refl _, HA2.out, b1.trans b2⟩
  · have HK : Hid (kb xs = sumOf xs) := if_neg h64
    obtain ⟨n, hnx⟩ : ∃ n, n = xs.length := ⟨_, rfl⟩
    rw [← hnx] at h64 hv1 HV hn HS ⊢
    clear hnx
    have l1 : 64 < (n : Int) := by omega
    go_enter Tryd.func66, Tryd.ntmps66
    go_wp2_with (first
      | (go_at_call 75; refine (HS.out _ HV.out).mono ?_; rintro e w0 ⟨v0, rfl, hv0, b0⟩; have HV0 : Hid (Byt w0 v0 (sumOf xs)) := hv0; clear hv0; have s0 := b0.size)
      | (at_make; refine make_law _ rfl _ _ rfl w0.heap.size (Nat.le_refl _) _ 64 rfl rfl rfl (by omega) ?_; intro w1 hown b1 l1'; have HA1 : Hid (Ar w1 w0.heap.size 0 .u8 z64) := hown.ar; have HV1 : Hid (Byt w1 v0 (kb xs)) := by { have := HV0.out.below b1; rw [HK.out]; exact this }; clear hown)
      | (refine copy_lawP _ rfl (.tmp 10) (.tmp 11) rfl w0.heap.size 64 64 _ z64 (kb xs) rfl rfl HV1.out HA1.out rfl HKL.out ?_; intro w2 A2 b2; rw [HBL.out] at A2; have HA2 : Hid (Ar w2 w0.heap.size 0 .u8 (blk xs)) := A2; clear A2))
    go_ret
    exact ⟨_, rfl, s0, HA2.out, b0.trans ((b1.trans b2).mono s0)⟩

theorem z_key : (Tryd.prog.info? 98).map (fun i => (i.zero, i.size)) = some (some (.agg (ints .u8 z64)), z64.length) := by kernel_rfl

set_option maxHeartbeats 2000000 in
theorem mnew_any (w : World) (v : Value) (xs : List Int) (h : Byt w v xs) (hn : xs.length ≤ 1000000) :
    Calls Tryd.prog 52 #[v] w fun e w' => ∃ c, e = .returned (.pointer (some ⟨c, 0, none⟩)) ∧ w.heap.size ≤ c ∧ Ar w' c 0 .u8 (blk xs) ∧ Below w.heap.size w w' := by
  have HV : Hid (Byt w v xs) := h
  have HAB : Hid (AllB (blk xs)) := blk_all xs h.all
  have HL : Hid ((blk xs).length = 64) := blk_len xs
  have HMB : Hid (∀ w0, Byt w0 v xs → Calls Tryd.prog 66 #[v] w0 fun e w' => ∃ g, e = .returned (.slice (some ⟨g, 0, none⟩) 64 64) ∧ w0.heap.size ≤ g ∧ Ar w' g 0 .u8 (blk xs) ∧ Below w0.heap.size w0 w') := fun w0 h => mblock_any w0 v xs h hn
  generalize blk xs = bx at *
  clear h hn
  go_enter Tryd.func52, Tryd.ntmps52
  go_wp2_with (first
    | (refine build_law _ rfl 98 _ rfl (.agg (ints .u8 z64)) (by kernel_rfl) ?_)
    | (refine box_lawF _ rfl (.tmp 4) 98 rfl .u8 z64 rfl ?_; intro w1 A1 B1 s1; have HA1 : Hid (Ar w1 w.heap.size 0 .u8 z64) := A1; clear A1))
  have HT : Hid (w1.there w.heap.size 0 64) := HA1.out.2
  have HV1 : Hid (Byt w1.drew v xs) := (HV.out.below B1).below (Below.refl _ _).drew
  go_region_held3 (fun w' => w'.there w.heap.size 0 64)
    (first | with_reducible exact World.there_setCells T1 _ _ _ | with_reducible exact T1 | with_reducible exact (World.there_drew ..).2 HT.out)
    (first
      | (go_at_call 66; refine (HMB.out _ HV1.out).mono ?_; rintro e w3 ⟨g, rfl, hg, hA3, hb3⟩; have HA3 : Ar w3 w.heap.size 0 .u8 z64 := Ar.below (w := w1.drew) (HA1.out.heap rfl) hb3 s1; have T1 : w3.there w.heap.size 0 64 := HA3.2; have hv3 : Byt w3 (.slice (some ⟨g, 0, none⟩) 64 64) bx := by { have := hA3.byt HAB.out 0 64 64 (by omega) (by rw [HL.out]; omega) (by omega) (by omega); rw [List.take_of_length_le (by rw [HL.out]; omega), List.drop_zero] at this; exact this })
      | (refine step_copy _ rfl (some 12) rfl (.tmp 9) (.tmp 11) rfl w.heap.size 0 64 64 (.slice (some ⟨g, 0, none⟩) 64 64) bx rfl rfl hv3 (by rw [HL.out]; intro j hj; exact T1 j (by omega)) ?_)
      | fail)
  have A4 : Ar (w3.setCells w.heap.size 0 ((bx.take 64).map (Value.int .u8))) w.heap.size 0 .u8 bx := by
    rw [List.take_of_length_le (by rw [HL.out]; omega)]
    exact Ar.whole (by rw [HL.out]; exact T1)
  have B4 : Below w.heap.size w (w3.setCells w.heap.size 0 ((bx.take 64).map (Value.int .u8))) := Lib.below_setCells _ (Nat.le_refl _) _ _ (B1.drew.trans (hb3.mono B1.size))
  generalize w3.setCells w.heap.size 0 ((bx.take 64).map (Value.int .u8)) = w4 at A4 B4 ⊢
  have HA4 : Hid (Ar w4 w.heap.size 0 .u8 bx) := A4
  clear A4
  go_wp2
  go_ret
  exact ⟨_, rfl, Nat.le_refl _, HA4.out, B4⟩

/-- bl, xored with ys as far as place k -/
def xp (bl ys : List Int) (k : Nat) : List Int := (xorl bl ys).take k ++ bl.drop k
theorem xp_len (bl ys : List Int) (h : bl.length = ys.length) (k : Nat) (hk : k ≤ bl.length) : (xp bl ys k).length = bl.length := by
  have := xorl_len bl ys h
  simp [xp, this]; omega
theorem xp_gb (bl ys : List Int) (h : bl.length = ys.length) (k : Nat) (hk : k < bl.length) : gb (xp bl ys k) k = gb bl k := by
  have hl := xorl_len bl ys h
  have e : ((xorl bl ys).take k).length = k := by simp [hl]; omega
  unfold gb xp
  rw [List.getD_eq_getElem?_getD, List.getElem?_append_right (by omega), e, Nat.sub_self, List.getElem?_drop, Nat.add_zero]
  rfl
theorem xp_set (bl ys : List Int) (h : bl.length = ys.length) (k : Nat) (hk : k < bl.length) : (xp bl ys k).set k (xr (gb bl k) (gb ys k)) = xp bl ys (k + 1) := by
  have hl := xorl_len bl ys h
  have e : ((xorl bl ys).take k).length = k := by simp [hl]; omega
  unfold xp
  rw [List.set_append_right _ _ (by omega), e, Nat.sub_self, xorl_take bl ys h k hk, List.drop_eq_getElem_cons hk, List.set_cons_zero]
  simp
theorem xp_zero (bl ys : List Int) : xp bl ys 0 = bl := by simp [xp]
theorem xp_end (bl ys : List Int) (h : bl.length = ys.length) : xp bl ys bl.length = xorl bl ys := by
  have hl := xorl_len bl ys h
  unfold xp
  rw [List.drop_length, List.append_nil, List.take_of_length_le (by omega)]
/-- a block, xored with a byte -/
def pdd (bl : List Int) (p : Int) : List Int := xorl bl (List.replicate 64 p)
theorem pdd_len (bl : List Int) (p : Int) (h : bl.length = 64) : (pdd bl p).length = 64 := by
  unfold pdd; rw [xorl_len _ _ (by simpa using h), h]
theorem gb_rep (p : Int) (k : Nat) (h : k < 64) : gb (List.replicate 64 p) k = p := by
  unfold gb
  rw [List.getD_eq_getElem?_getD, List.getElem?_replicate, if_pos h]; rfl
theorem rep_all (p : Int) (hp : 0 ≤ p ∧ p ≤ 255) : AllB (List.replicate 64 p) := allB_mem fun x hx => by
  have := List.eq_of_mem_replicate hx
  omega
theorem pdd_all (bl : List Int) (p : Int) (h : bl.length = 64) (ha : AllB bl) (hp : 0 ≤ p ∧ p ≤ 255) : AllB (pdd bl p) := xorl_all _ _ (by simpa using h) ha (rep_all p hp)

/-- the key that a pointer tells: a nil one is that of no bytes -/
def KeyV (w : World) (kv : Value) (bl : List Int) : Prop := (kv = .pointer none ∧ bl = z64) ∨ ∃ c, kv = .pointer (some ⟨c, 0, none⟩) ∧ Ar w c 0 .u8 bl ∧ bl.length = 64 ∧ AllB bl
theorem KeyV.len {w : World} {kv : Value} {bl : List Int} (h : KeyV w kv bl) : bl.length = 64 := by
  rcases h with ⟨_, rfl⟩ | ⟨_, _, _, h, _⟩
  · rfl
  · exact h
theorem KeyV.all {w : World} {kv : Value} {bl : List Int} (h : KeyV w kv bl) : AllB bl := by
  rcases h with ⟨_, rfl⟩ | ⟨_, _, _, _, h⟩
  · exact z64_all
  · exact h
theorem KeyV.below {w w' : World} {kv : Value} {bl : List Int} (h : KeyV w kv bl) (hb : Below w.heap.size w w') : KeyV w' kv bl := by
  rcases h with h | ⟨c, h1, h2, h3, h4⟩
  · exact Or.inl h
  · exact Or.inr ⟨c, h1, h2.below hb (h2.lt (by omega)), h3, h4⟩

set_option maxHeartbeats 2000000 in
theorem padded_any (w : World) (kv : Value) (bl : List Int) (p : Int) (hkv : KeyV w kv bl) (hp : 0 ≤ p ∧ p ≤ 255) :
    Calls Tryd.prog 69 #[kv, .int .u8 p] w fun e w' => ∃ g, e = .returned (.slice (some ⟨g, 0, none⟩) 64 64) ∧ w.heap.size ≤ g ∧ Ar w' g 0 .u8 (pdd bl p) ∧ Below w.heap.size w w' := by
  have HL : Hid (bl.length = 64) := hkv.len
  have HA : Hid (AllB bl) := hkv.all
  have HP : Hid (0 ≤ p ∧ p ≤ 255) := hp
  have HX : Hid (∀ k, k < 64 → (xp bl (List.replicate 64 p) k).length = 64 ∧ gb (xp bl (List.replicate 64 p) k) k = gb bl k ∧ (xp bl (List.replicate 64 p) k).set k (xr (gb bl k) p) = xp bl (List.replicate 64 p) (k + 1)) := fun k hk => by
    have e : bl.length = (List.replicate 64 p).length := by simpa using HL.out
    refine ⟨by rw [xp_len _ _ e k (by rw [HL.out]; omega), HL.out], xp_gb _ _ e k (by rw [HL.out]; omega), ?_⟩
    have := xp_set _ _ e k (by rw [HL.out]; omega)
    rwa [gb_rep p k hk] at this
  have HX0 : Hid (xp bl (List.replicate 64 p) 0 = bl) := xp_zero _ _
  have HX1 : Hid (xp bl (List.replicate 64 p) 64 = pdd bl p) := by
    have := xp_end bl (List.replicate 64 p) (by simpa using HL.out)
    rw [HL.out] at this
    exact this
  generalize xp bl (List.replicate 64 p) = X at *
  generalize pdd bl p = R at *
  rcases hkv with ⟨rfl, rfl⟩ | ⟨c, rfl, hAc, -, -⟩
  · go_enter Tryd.func69, Tryd.ntmps69
    go_wp2_with (refine new_lawF _ rfl 96 rfl .u8 z64 z_arr64b ?_; intro w1 A1 B1 s1; have HA1 : Hid (Ar w1 w.heap.size 0 .u8 z64) := A1; clear A1)
    go_loopw [13] (fun i wr => ∃ k : Nat, k ≤ 64 ∧ i = .int .i64 k ∧ Ar wr w.heap.size 0 .u8 (X k) ∧ Below w.heap.size w wr) (fun i _ => 64 - (intOf i).toNat)
    case atStart => exact ⟨0, Nat.zero_le _, rfl, by rw [HX0.out]; exact HA1.out, B1⟩
    case round =>
      obtain ⟨k, hk, rfl, hA', hbel⟩ := hrel
      have k0 : (0 : Int) ≤ (k : Int) := by omega
      have q1 : IntKind.i64.wrap (k : Int) = k := by rw [IntKind.wrap_i64]; omega
      by_cases hlt : k < 64
      · have k1 : (k : Int) < 64 := by omega
        obtain ⟨hx1, hx2, hx3⟩ := HX.out k hlt
        have c0 := hA'.cell0 k (by omega)
        have f0 := hA'.free0 k (by omega)
        rw [hx2] at c0
        have hx : bits .xor .u8 (gb z64 k) p = xr (gb z64 k) p := xr_of _ _ (HA.out k) HP.out
        have A2 := hA'.set0 k (by omega) (xr (gb z64 k) p)
        rw [hx3] at A2
        have HA2 : Hid (Ar (wr.setCell ⟨w.heap.size, k, none⟩ (.int .u8 (xr (gb z64 k) p))) w.heap.size 0 .u8 (X (k + 1))) := A2
        generalize gb z64 k = y at *
        clear A2 hA' hx1 hx2 hx3
        go_wp2
        go_roundw
        case rel => exact ⟨k + 1, by omega, by go_num, HA2.out, hbel.setCell (by show _ ≤ _; simp) _⟩
        case measure => simp [intOf]; omega
      · have : k = 64 := by omega
        subst this
        rw [HX1.out] at hA'
        have HA3 : Hid (Ar wr w.heap.size 0 .u8 R) := hA'
        clear hA'
        go_wp2_with (refine arr_all _ rfl (.tmp 5) 96 rfl w.heap.size 64 rfl und_arr64b len_arr64b (size_arr64b _) ?_)
        go_ret
        exact ⟨_, rfl, Nat.le_refl _, HA3.out, hbel⟩
  · have hcl := hAc.lt (by rw [HL.out]; omega)
    have HAc : Hid (Ar w c 0 .u8 bl) := hAc
    clear hAc
    go_enter Tryd.func69, Tryd.ntmps69
    go_wp2_with (first
      | (refine new_lawF _ rfl 96 rfl .u8 z64 z_arr64b ?_; intro w1 A1 B1 s1; have HA1 : Hid (Ar w1 w.heap.size 0 .u8 z64) := A1; clear A1; have HAc1 : Hid (Ar w1 c 0 .u8 bl) := HAc.out.below B1 hcl)
      | (refine load_law _ rfl (.tmp 11) 96 rfl .u8 bl c 0 rfl HAc1.out 64 5 Tryd.underlying96 i_arr64b HL.out ?_)
      | (refine store_lawF _ rfl (.tmp 5) (.tmp 12) 96 rfl .u8 z64 bl w.heap.size rfl rfl HA1.out 64 i_arr64b rfl HL.out ?_; intro w2 A2 B2; have HA2 : Hid (Ar w2 w.heap.size 0 .u8 bl) := A2; clear A2))
    go_loopw [13] (fun i wr => ∃ k : Nat, k ≤ 64 ∧ i = .int .i64 k ∧ Ar wr w.heap.size 0 .u8 (X k) ∧ Below w.heap.size w wr) (fun i _ => 64 - (intOf i).toNat)
    case atStart => exact ⟨0, Nat.zero_le _, rfl, by rw [HX0.out]; exact HA2.out, B1.trans B2⟩
    case round =>
      obtain ⟨k, hk, rfl, hA', hbel⟩ := hrel
      have k0 : (0 : Int) ≤ (k : Int) := by omega
      have q1 : IntKind.i64.wrap (k : Int) = k := by rw [IntKind.wrap_i64]; omega
      by_cases hlt : k < 64
      · have k1 : (k : Int) < 64 := by omega
        obtain ⟨hx1, hx2, hx3⟩ := HX.out k hlt
        have c0 := hA'.cell0 k (by omega)
        have f0 := hA'.free0 k (by omega)
        rw [hx2] at c0
        have hx : bits .xor .u8 (gb bl k) p = xr (gb bl k) p := xr_of _ _ (HA.out k) HP.out
        have A2 := hA'.set0 k (by omega) (xr (gb bl k) p)
        rw [hx3] at A2
        have HA3 : Hid (Ar (wr.setCell ⟨w.heap.size, k, none⟩ (.int .u8 (xr (gb bl k) p))) w.heap.size 0 .u8 (X (k + 1))) := A2
        generalize gb bl k = y at *
        clear A2 hA' hx1 hx2 hx3
        go_wp2
        go_roundw
        case rel => exact ⟨k + 1, by omega, by go_num, HA3.out, hbel.setCell (by show _ ≤ _; simp) _⟩
        case measure => simp [intOf]; omega
      · have : k = 64 := by omega
        subst this
        rw [HX1.out] at hA'
        have HA3 : Hid (Ar wr w.heap.size 0 .u8 R) := hA'
        clear hA'
        go_wp2_with (refine arr_all _ rfl (.tmp 5) 96 rfl w.heap.size 64 rfl und_arr64b len_arr64b (size_arr64b _) ?_)
        go_ret
        exact ⟨_, rfl, Nat.le_refl _, HA3.out, hbel⟩
end Go.Proofs.YtmbfccclghnaeaaDoor.mc

/- What the reference's Block and Tag of layer 3 answer. No claim of its own. -/
namespace Go.Proofs.YtmbfccclghnaeaaDoor.mc
open Go.RowKit
set_option maxRecDepth 20000

set_option maxHeartbeats 2000000 in
theorem rblock_any (w : World) (v : Value) (xs : List Int) (h : Byt w v xs) (hn : xs.length ≤ 1000000) :
    Calls Tryd.prog 59 #[v] w fun e w' => ∃ v', e = .returned v' ∧ Byt w' v' (blk xs) ∧ Below w.heap.size w w' := by
  have HV : Hid (Byt w v xs) := h
  have HXA : Hid (AllB xs) := h.all
  have HAB : Hid (AllB (blk xs)) := blk_all xs h.all
  have HN : Hid (xs.length ≤ 1000000) := hn
  have B0 : Below w.heap.size w (w.alloc (.cells #[] 5)) := (Below.refl _ _).alloc (Nat.le_refl _) _
  have HO0 : Hid (Own w.heap.size (w.alloc (.cells #[] 5)) (.slice (some ⟨w.heap.size, 0, none⟩) 0 0) []) := Own.empty w (Nat.le_refl _)
  have HV0 : Hid (Byt (w.alloc (.cells #[] 5)) v xs) := HV.out.below B0
  have z0 : w.heap.size ≤ (w.alloc (.cells #[] 5)).heap.size := B0.size
  obtain ⟨m, hm⟩ : ∃ m, m = 64 - (kb xs).length := ⟨_, rfl⟩
  have HB : Hid (kb xs ++ List.replicate m 0 = blk xs) := by rw [hm]; rfl
  have HF : Hid (clamp (m : Int) 65536 = m) := by show _ = _; unfold clamp; omega
  have HM : Hid (m = 64 - (kb xs).length) := hm
  have HKL : Hid ((kb xs).length ≤ 64) := kb_len xs
  have hm64 : m ≤ 64 := by omega
  clear hm h hn
  generalize blk xs = bx at *
  by_cases h64 : xs.length ≤ 64
  · have HK : Hid (kb xs = xs) := if_pos h64
    rw [HK.out] at HB HM HKL
    go_enter Tryd.func59, Tryd.ntmps59
    go_wp2_with (refine pushs_law _ rfl (.tmp 4) (.tmp 5) rfl w.heap.size z0 _ _ [] xs rfl rfl HO0.out HV0.out (by simp) (by have := HN.out; omega) ?_; intro v1 w1 O1 b1; rw [List.nil_append] at O1; have HO1 : Hid (Own w.heap.size w1 v1 xs) := O1; clear O1; have c1 : Below w.heap.size w w1 := B0.trans b1; have s1 := c1.size; obtain ⟨ro, rc, hv1, e1, e2, -, -, -⟩ := HO1.out.byt HXA.out; subst hv1)
    obtain ⟨n, hnx⟩ : ∃ n, n = xs.length := ⟨_, rfl⟩
    rw [← hnx] at h64 e1 HM HKL HO1 ⊢
    have HNX : Hid (n = xs.length) := hnx
    clear hnx
    have l1 : ¬ 64 < (n : Int) := by omega
    have HF' : Hid (clamp (64 - (n : Int)) 65536 = m) := by have := HM.out; show _ = _; unfold clamp; omega
    go_wp2_with (first
      | (go_at_call 40; refine (rfill_any 0 (64 - (n : Int)) _ (by omega)).mono ?_; rintro e w3 ⟨v3, rfl, hv3, hb3⟩; rw [HF'.out] at hv3; have HV3 : Hid (Byt w3 v3 (List.replicate m 0)) := hv3; clear hv3; have c3 : Below w.heap.size w w3 := c1.trans (hb3.mono s1); have s3 := c3.size; have HO3 : Hid (Own w.heap.size w3 (.slice ro n rc) xs) := ownsRow_below HO1.out hb3)
      | (refine pushs_law _ rfl (.tmp 12) (.tmp 16) rfl w.heap.size s3 _ _ xs (List.replicate m 0) rfl rfl HO3.out HV3.out (by have := HNX.out; omega) (by simp; omega) ?_; intro v4 w4 O4 b4; rw [HB.out] at O4; have HO4 : Hid (Own w.heap.size w4 v4 bx) := O4; clear O4; have c4 : Below w.heap.size w w4 := c3.trans b4))
    go_ret
    exact ⟨_, rfl, HO4.out.byt HAB.out, c4⟩
  · have HK : Hid (kb xs = sumOf xs) := if_neg h64
    have HSA : Hid (AllB (sumOf xs)) := sumOf_all _
    have HSL : Hid ((sumOf xs).length = 32) := sumOf_len _
    rw [HK.out] at HB HM HKL
    rw [HSL.out] at HM
    have hm32 : m = 32 := HM.out
    have HRS : Hid (∀ w0 v, Byt w0 v xs → Calls Tryd.prog 60 #[v] w0 fun e w' => ∃ v', e = .returned v' ∧ Own w0.heap.size w' v' (sumOf xs) ∧ Below w0.heap.size w0 w') := fun w0 v h => rsum_own w0 v xs h HN.out
    generalize sumOf xs = ss at *
    have HF32 : Hid (clamp 32 65536 = 32) := by show _ = _; decide
    subst hm32
    go_enter Tryd.func59, Tryd.ntmps59
    go_wp2_with (refine pushs_law _ rfl (.tmp 4) (.tmp 5) rfl w.heap.size z0 _ _ [] xs rfl rfl HO0.out HV0.out (by simp) (by have := HN.out; omega) ?_; intro v1 w1 O1 b1; rw [List.nil_append] at O1; have HB1 : Hid (Byt w1 v1 xs) := O1.byt HXA.out; clear O1; have c1 : Below w.heap.size w w1 := B0.trans b1; have s1 := c1.size; obtain ⟨ro, rc, hv1, e1, e2, -, -, -⟩ := id HB1.out; subst hv1)
    obtain ⟨n, hnx⟩ : ∃ n, n = xs.length := ⟨_, rfl⟩
    rw [← hnx] at h64 e1 HB1 ⊢
    have HNX : Hid (n = xs.length) := hnx
    clear hnx
    have l1 : 64 < (n : Int) := by omega
    go_wp2_with (go_at_call 60; refine (HRS.out _ _ HB1.out).mono ?_; rintro e w2 ⟨v2, rfl, hv2, hb2⟩; have HO2 : Hid (Own w.heap.size w2 v2 ss) := hv2.mono s1; have c2 : Below w.heap.size w w2 := c1.trans (hb2.mono s1); have s2 := c2.size; clear hv2; obtain ⟨po, pc, hv2, e3, e4, -, -, -⟩ := HO2.out.byt HSA.out; subst hv2; rw [HSL.out] at e3 HO2 ⊢)
    go_wp2_with (first
      | (go_at_call 40; refine (rfill_any 0 32 _ (by omega)).mono ?_; rintro e w3 ⟨v3, rfl, hv3, hb3⟩; rw [HF32.out] at hv3; have HV3 : Hid (Byt w3 v3 (List.replicate 32 0)) := hv3; clear hv3; have c3 : Below w.heap.size w w3 := c2.trans (hb3.mono s2); have s3 := c3.size; have HO3 : Hid (Own w.heap.size w3 (.slice po 32 pc) ss) := ownsRow_below HO2.out hb3)
      | (refine pushs_law _ rfl (.tmp 12) (.tmp 16) rfl w.heap.size s3 _ _ ss (List.replicate 32 0) rfl rfl HO3.out HV3.out (by rw [HSL.out]; omega) (by simp) ?_; intro v4 w4 O4 b4; rw [HB.out] at O4; have HO4 : Hid (Own w.heap.size w4 v4 bx) := O4; clear O4; have c4 : Below w.heap.size w w4 := c3.trans b4))
    go_ret
    exact ⟨_, rfl, HO4.out.byt HAB.out, c4⟩

/-- the tag of a text under a key's block -/
def tagB (bl t : List Int) : List Int := sumOf (pdd bl 92 ++ sumOf (pdd bl 54 ++ t))

set_option maxHeartbeats 4000000 in
theorem rtag_any (w : World) (v u : Value) (xs ts : List Int) (h : Byt w v xs) (hu : Byt w u ts) (hn : xs.length ≤ 1000000) (hm : ts.length ≤ 100000) :
    Calls Tryd.prog 42 #[v, u] w fun e w' => ∃ v', e = .returned v' ∧ Byt w' v' (tagB (blk xs) ts) ∧ Below w.heap.size w w' := by
  have HV : Hid (Byt w v xs) := h
  have HU : Hid (Byt w u ts) := hu
  have HM : Hid (ts.length ≤ 100000) := hm
  have HTA : Hid (AllB ts) := hu.all
  have HAB : Hid (AllB (blk xs)) := blk_all xs h.all
  have HL : Hid ((blk xs).length = 64) := blk_len xs
  have HT : Hid (tagB (blk xs) ts = sumOf (pdd (blk xs) 92 ++ sumOf (pdd (blk xs) 54 ++ ts))) := rfl
  have HRB : Hid (∀ w0, Byt w0 v xs → Calls Tryd.prog 59 #[v] w0 fun e w' => ∃ v', e = .returned v' ∧ Byt w' v' (blk xs) ∧ Below w0.heap.size w0 w') := fun w0 h => rblock_any w0 v xs h hn
  generalize tagB (blk xs) ts = T at *
  generalize blk xs = bx at *
  have HF : Hid (clamp 64 65536 = 64) := by show _ = _; decide
  have HP : Hid (∀ p, xorl bx (List.replicate 64 p) = pdd bx p) := fun p => rfl
  have HPL : Hid (∀ p, (pdd bx p).length = 64) := fun p => pdd_len bx p HL.out
  have HPA : Hid (∀ p, 0 ≤ p ∧ p ≤ 255 → AllB (pdd bx p)) := fun p hp => pdd_all bx p HL.out HAB.out hp
  have HSL : Hid (∀ l, (sumOf l).length = 32 ∧ AllB (sumOf l)) := fun l => ⟨sumOf_len l, sumOf_all l⟩
  have HRS : Hid (∀ w0 v l, Byt w0 v l → l.length ≤ 1000000 → Calls Tryd.prog 60 #[v] w0 fun e w' => ∃ v', e = .returned v' ∧ Byt w' v' (sumOf l) ∧ Below w0.heap.size w0 w') := fun w0 v l h h2 => rsum_any w0 v l h h2
  generalize sumOf = SM at *
  clear h hu hn hm
  go_enter Tryd.func42, Tryd.ntmps42
  go_wp2_with (first
    | (go_at_call 60; refine (HRS.out _ _ _ HV8.out (by have := HPL.out 92; have := (HSL.out (pdd bx 54 ++ ts)).1; simp; omega)).mono ?_; rintro e w9 ⟨v9, rfl, hv9, b9⟩; rw [← HT.out] at hv9; have HV9 : Hid (Byt w9 v9 T) := hv9; have d9 : Below w6.heap.size w6 w9 := d8.trans (b9.mono d8.size); clear hv9)
    | (refine pushs_law _ rfl (.tmp 17) (.tmp 18) rfl w6.heap.size b7.size _ _ (pdd bx 92) (SM (pdd bx 54 ++ ts)) rfl rfl HO7.out HV57.out (by rw [HPL.out]; omega) (by rw [(HSL.out _).1]; omega) ?_; intro v8 w8 O8 b8; have HV8 : Hid (Byt w8 v8 (pdd bx 92 ++ SM (pdd bx 54 ++ ts))) := O8.byt (allB_append (HPA.out 92 (by omega)) (HSL.out _).2); have d8 : Below w6.heap.size w6 w8 := b7.trans b8; clear O8)
    | (go_at_call 61; refine (rxor_own _ _ _ _ _ HV16.out HV6.out (by rw [HL.out]; simp) (by rw [HL.out]; omega)).mono ?_; rintro e w7 ⟨v7, rfl, hv7, b7⟩; rw [HP.out] at hv7; have HO7 : Hid (Own w6.heap.size w7 v7 (pdd bx 92)) := hv7; have HV57 : Hid (Byt w7 v5 (SM (pdd bx 54 ++ ts))) := HV56.out.below b7; clear hv7)
    | (go_at_call 40; have q92 := s5; refine (rfill_any 92 64 _ (by omega)).mono ?_; rintro e w6 ⟨v6, rfl, hv6, b6⟩; rw [HF.out] at hv6; have HV6 : Hid (Byt w6 v6 (List.replicate 64 92)) := hv6; have HV16 : Hid (Byt w6 v1 bx) := HV15.out.below b6; have HV56 : Hid (Byt w6 v5 (SM (pdd bx 54 ++ ts))) := HV5.out.below b6; have c6 : Below w.heap.size w w6 := c5.trans (b6.mono s5); have s6 := c6.size; clear hv6)
    | (go_at_call 60; refine (HRS.out _ _ _ HV4.out (by have := HM.out; have := HPL.out 54; simp; omega)).mono ?_; rintro e w5 ⟨v5, rfl, hv5, b5⟩; have HV5 : Hid (Byt w5 v5 (SM (pdd bx 54 ++ ts))) := hv5; have d5 : Below w2.heap.size w2 w5 := d4.trans (b5.mono d4.size); have HV15 : Hid (Byt w5 v1 bx) := HV12.out.below d5; have c5 : Below w.heap.size w w5 := c2.trans (d5.mono s2); have s5 := c5.size; clear hv5)
    | (refine pushs_law _ rfl (.tmp 11) (.tmp 12) rfl w2.heap.size b3.size _ _ (pdd bx 54) ts rfl rfl HO3.out HU3.out (by rw [HPL.out]; omega) (by have := HM.out; omega) ?_; intro v4 w4 O4 b4; have HV4 : Hid (Byt w4 v4 (pdd bx 54 ++ ts)) := O4.byt (allB_append (HPA.out 54 (by omega)) HTA.out); have d4 : Below w2.heap.size w2 w4 := b3.trans b4; clear O4)
    | (go_at_call 61; refine (rxor_own _ _ _ _ _ HV12.out HV2.out (by rw [HL.out]; simp) (by rw [HL.out]; omega)).mono ?_; rintro e w3 ⟨v3, rfl, hv3, b3⟩; rw [HP.out] at hv3; have HO3 : Hid (Own w2.heap.size w3 v3 (pdd bx 54)) := hv3; have c3 : Below w.heap.size w w3 := c2.trans (b3.mono s2); have HU3 : Hid (Byt w3 u ts) := HU.out.below c3; clear hv3)
    | (go_at_call 40; refine (rfill_any 54 64 _ (by omega)).mono ?_; rintro e w2 ⟨v2, rfl, hv2, b2⟩; rw [HF.out] at hv2; have HV2 : Hid (Byt w2 v2 (List.replicate 64 54)) := hv2; have HV12 : Hid (Byt w2 v1 bx) := HV1.out.below b2; have c2 : Below w.heap.size w w2 := b1.trans (b2.mono s1); have s2 := c2.size; clear hv2)
    | (go_at_call 59; refine (HRB.out _ HV.out).mono ?_; rintro e w1 ⟨v1, rfl, hv1, b1⟩; have HV1 : Hid (Byt w1 v1 bx) := hv1; have s1 := b1.size; clear hv1))
  go_ret
  exact ⟨_, rfl, HV9.out, c6.trans (d9.mono s6)⟩
end Go.Proofs.YtmbfccclghnaeaaDoor.mc

/- How a statement is closed once its call is known to return true and to leave all that was there as it was; what the arguments hold. No claim of its own. -/
namespace Go.Proofs.YtmbfccclghnaeaaDoor.mc
open Go.ChangeShapes Go.WideShapes Go.ChangeAt Go.RowKit
set_option maxRecDepth 20000

theorem laidOut : laidOutB Tryd.prog = true := by kernel_rfl

theorem trodAll_below {H : Type} {enc : TypeId × Value → H} {W W' : World} (hb : Below W.heap.size W W') :
    ∀ (ts : List TypeId) (vs : List Value) (ds : List (DataW H)) (ps : List MemPlace), (∀ t ∈ ts, Tryd.prog.readableRec t = true ∧ t < Tryd.prog.types.size) → (∀ x ∈ ps, x.block < W.heap.size) →
      DataW.TrodAll enc Tryd.prog W 0 (fun _ => true) true ts vs ds ps → DataW.TrodAll enc Tryd.prog W' 0 (fun b => decide (b < W.heap.size)) true ts vs ds ps
  | [], [], [], _, _, _, h => h
  | t :: ts, v :: vs, d :: ds, ps, ht, hp, h => by
    obtain ⟨p, q, h1, h2, rfl⟩ := h
    have t1 := ht t (by simp)
    exact ⟨p, q, Below.trod laidOut t1.1 t1.2 h1 hb (fun x hx => hp x (by simp [hx])), trodAll_below hb ts vs ds q (fun t h => ht t (by simp [h])) (fun x hx => hp x (by simp [hx])) h2, rfl⟩

theorem post_law {H : Type} {enc : TypeId × Value → H} {s : ChangeSpec} {f : Func} {W W' : World} {args : Array Value} {ds gs : List (DataW H)} {before : List MemPlace}
    (hv : s.vars = []) (hr : f.resultTypes = #[4]) (hts : ∀ t ∈ f.params.toList, Tryd.prog.readableRec t = true ∧ t < Tryd.prog.types.size)
    (hres : (s.fn H (ds ++ gs)).results = [.lit (.bool true)]) (hargs : (s.fn H (ds ++ gs)).args = ds) (hvars : (s.fn H (ds ++ gs)).vars = [])
    (hW : DataW.Whole enc Tryd.prog f.params.toList s.vars false W args.toList ds gs before) (hb : Below W.heap.size W W') :
    s.post enc Tryd.prog f false true false false W args (.bool true) W' := by
  have hW' := hW
  have hlt := hW.lt
  obtain ⟨p, q, hA, hV, hpq, hfz, hnd⟩ := hW
  refine ⟨ds, gs, before, [], p, [], hW', ?_, ?_, ?_, hb.frame _, fun h => by cases h⟩
  · rw [hres, hr]
    exact trodAll_mk1 (shut_bool Tryd.underlying4 _)
  · rw [hargs]
    exact trodAll_below hb _ _ _ _ hts (fun x hx => by simpa using hlt x (by rw [hpq]; simp [hx])) hA
  · rw [hvars, hv]; rfl

/-- an argument that is a slice of bytes holds bytes -/
theorem byt_open {H : Type} {enc : TypeId × Value → H} {W : World} {base : Nat} {v : Value} {d : DataW H} {ps : List MemPlace}
    (ok : Value.okWide Tryd.prog W .any base 23 v) (h : DataW.Trod enc Tryd.prog W 0 (fun _ => true) true 23 v d ps) : ∃ xs, Byt W v xs := by
  obtain ⟨a0, len, cap, rfl⟩ := okWide_slice Tryd.underlying23 ok
  obtain ⟨fuel, hf⟩ := h
  rcases open_ints Tryd.underlying23 Tryd.underlying5 cells_u8 hf with ⟨hcs, hx⟩ | ⟨a, len', cap', zs, hcs, _, hl, hm, hz, hx, hcell, hwz⟩
  · simp [Value.cells] at hcs
    obtain ⟨rfl, rfl, rfl⟩ := hcs
    exact ⟨[], Byt.nil W⟩
  · simp [Value.cells] at hcs
    obtain ⟨rfl, rfl, rfl⟩ := hcs
    simp at hz
    have hlen : (zs.take len).length = len := by simp; omega
    have hgb : ∀ t, t < len → gb (zs.take len) t = zs.getD t 0 := fun t ht => by simp [gb, List.getD, ht]
    refine ⟨zs.take len, some a, cap, by rw [hlen], by omega, by simpa [maxLen] using hm, allB_mem fun x hx => bounds_u8 (hwz x (List.mem_of_mem_take hx)), (by intro h; cases h), fun hp => ?_⟩
    obtain ⟨b, off, rfl, hc⟩ := ints_at hcell (by omega)
    refine ⟨b, off, rfl, fun t ht => ?_⟩
    rw [hgb t (by omega)]
    exact hc t (by omega)
theorem cells_u32 : Tryd.prog.cellsOf 107 = 1 := by kernel_rfl
/-- an argument that is a slice of words holds words -/
theorem wrd_open {H : Type} {enc : TypeId × Value → H} {W : World} {base : Nat} {v : Value} {d : DataW H} {ps : List MemPlace}
    (ok : Value.okWide Tryd.prog W .any base 104 v) (h : DataW.Trod enc Tryd.prog W 0 (fun _ => true) true 104 v d ps) : ∃ xs, Wrd W v xs := by
  obtain ⟨a0, len, cap, rfl⟩ := okWide_slice Tryd.underlying104 ok
  obtain ⟨fuel, hf⟩ := h
  rcases open_ints Tryd.underlying104 Tryd.underlying107 cells_u32 hf with ⟨hcs, hx⟩ | ⟨a, len', cap', zs, hcs, _, hl, hm, hz, hx, hcell, hwz⟩
  · simp [Value.cells] at hcs
    obtain ⟨rfl, rfl, rfl⟩ := hcs
    exact ⟨[], Wrd.nil W⟩
  · simp [Value.cells] at hcs
    obtain ⟨rfl, rfl, rfl⟩ := hcs
    simp at hz
    have hlen : (zs.take len).length = len := by simp; omega
    have hgb : ∀ t, t < len → gb (zs.take len) t = zs.getD t 0 := fun t ht => by simp [gb, List.getD, ht]
    refine ⟨zs.take len, some a, cap, by rw [hlen], by omega, by simpa [maxLen] using hm, allW_mem fun x hx => bounds_u32 (hwz x (List.mem_of_mem_take hx)), (by intro h; cases h), fun hp => ?_⟩
    obtain ⟨b, off, rfl, hc⟩ := ints_at hcell (by omega)
    refine ⟨b, off, rfl, fun t ht => ?_⟩
    rw [hgb t (by omega)]
    exact hc t (by omega)

/-- v is a slice of slices that hold the lists ls -/
def Bts (w : World) (v : Value) (ls : List (List Int)) : Prop :=
  ∃ ao cap, v = .slice ao ls.length cap ∧ ls.length ≤ cap ∧ cap ≤ 9223372036854775807 ∧ (0 < ls.length → ∃ b off, ao = some ⟨b, off, none⟩ ∧ ∀ r, r < ls.length → ∃ u, w.cell? ⟨b, off + r, none⟩ = some u ∧ Byt w u (ls.getD r [])) ∧ ∀ r, (ls.getD r []).length ≤ 140737488351232
theorem weightsAll_mem {H : Type} {P : Program} {e : TypeId} {n : Nat} : ∀ {l : List (DataW H)} {d : DataW H}, d ∈ l → n ∈ d.weights P e → n ∈ DataW.weightsAll P e l
  | _ :: _, _, h, hn => by
    simp only [DataW.weightsAll, List.mem_append]
    rcases List.mem_cons.1 h with rfl | h
    · exact Or.inl hn
    · exact Or.inr (weightsAll_mem h hn)
theorem bytes_u8 : Tryd.prog.bytesOf 5 = 1 := by kernel_rfl
theorem cells_bytes : Tryd.prog.cellsOf 23 = 1 := by kernel_rfl
/-- an argument that is a slice of slices of bytes -/
theorem bts_open {H : Type} {enc : TypeId × Value → H} {W : World} {base : Nat} {v : Value} {d : DataW H} {ps : List MemPlace}
    (ok : Value.okWide Tryd.prog W .any base 62 v) (h : DataW.Trod enc Tryd.prog W 0 (fun _ => true) true 62 v d ps) (hw : ∀ n ∈ d.weights Tryd.prog 62, n ≤ reachBytes) : ∃ ls, Bts W v ls := by
  obtain ⟨a0, len, cap, rfl⟩ := okWide_slice Tryd.underlying62 ok
  obtain ⟨fuel, hf⟩ := h
  rcases Go.Deep.open_int_rows Tryd.underlying62 Tryd.underlying23 Tryd.underlying5 cells_bytes cells_u8 hf with ⟨hcs, hx⟩ | ⟨a, len', cap', A, L, C, Z, hcs, _, hl, hm, hx, hr⟩
  · simp [Value.cells] at hcs
    obtain ⟨rfl, rfl, rfl⟩ := hcs
    exact ⟨[], none, 0, rfl, by simp, by simp, (fun h => by simp at h), fun r => by simp⟩
  · simp [Value.cells] at hcs
    obtain ⟨rfl, rfl, rfl⟩ := hcs
    have hlen : ((List.range len).map fun r => (Z r).take (L r)).length = len := by simp
    refine ⟨(List.range len).map fun r => (Z r).take (L r), some a, cap, by rw [hlen], by omega, by simpa [maxLen] using hm, fun hp => ?_, fun r => ?_⟩
    rotate_left
    · by_cases hrl : r < len
      · obtain ⟨h1, h2, h3, h4, h5, h6, h7⟩ := hr r (by omega)
        have e : ((List.range len).map fun r => (Z r).take (L r)).getD r [] = (Z r).take (L r) := by simp [List.getD, hrl]
        rw [e, List.length_take]
        have hd : d = _ := (Prod.mk.inj hx).1
        cases hA : A r with
        | none => have := h6 hA; omega
        | some a' =>
          have hm1 : Go.Deep.intRow (H := H) .u8 (A r) (L r) (Z r) ∈ (List.range len).map fun r => Go.Deep.intRow (H := H) .u8 (A r) (L r) (Z r) := List.mem_map.2 ⟨r, List.mem_range.2 hrl, rfl⟩
          have hn : C r ∈ (Go.Deep.intRow (H := H) .u8 (A r) (L r) (Z r)).weights Tryd.prog 23 := by
            rw [hA]
            simp only [Go.Deep.intRow, DataW.weights, Tryd.underlying23, bytes_u8]
            have : ((lits .u8 ((Z r).take (L r)) : List (DataW H)).length + (lits .u8 ((Z r).drop (L r)) : List (DataW H)).length) * 1 = C r := by
              simp [lits]; omega
            rw [this]
            exact List.mem_cons_self
          have := hw (C r) (by
            rw [hd]
            simp only [DataW.weights, Tryd.underlying62]
            exact List.mem_cons_of_mem _ (List.mem_append_left _ (weightsAll_mem hm1 hn)))
          simp only [reachBytes] at this
          omega
      · have e : ((List.range len).map fun r => (Z r).take (L r)).getD r [] = [] := by simp [List.getD, Nat.le_of_not_lt hrl]
        rw [e]; simp
    rw [hlen] at hp ⊢
    obtain ⟨b, off, spot⟩ := a
    have hspot : spot = none := by simpa [Addr.add] using World.cell?_spot (hr 0 (by omega)).1
    subst hspot
    refine ⟨b, off, rfl, fun r hrl => ?_⟩
    obtain ⟨h1, h2, h3, h4, h5, h6, h7⟩ := hr r (by omega)
    rw [Go.WideShapes.add_plain] at h1
    refine ⟨_, h1, ?_⟩
    have e : ((List.range len).map fun r => (Z r).take (L r)).getD r [] = (Z r).take (L r) := by simp [List.getD, hrl]
    rw [e]
    have hzl : ((Z r).take (L r)).length = L r := by simp; omega
    have hgb : ∀ t, t < L r → gb ((Z r).take (L r)) t = (Z r).getD t 0 := fun t ht => by simp [gb, List.getD, ht]
    refine ⟨A r, C r, by rw [hzl], by omega, by simpa [maxLen] using h3, allB_mem fun x hx => bounds_u8 (h5 x (List.mem_of_mem_take hx)), h6, fun hp => ?_⟩
    cases hA : A r with
    | none => have := h6 hA; omega
    | some a' =>
      obtain ⟨-, hc⟩ := h7 a' hA
      obtain ⟨b', off', spot'⟩ := a'
      have hspot' : spot' = none := by simpa [Addr.add] using World.cell?_spot (hc 0 (by omega))
      subst hspot'
      refine ⟨b', off', rfl, fun t ht => ?_⟩
      rw [hgb t (by omega), ← Go.WideShapes.add_plain]
      exact hc t (by omega)

/-- two slices that hold the same bytes are the same -/
theorem same_true (w : World) (va vb : Value) (xs : List Int) (ha : Byt w va xs) (hb : Byt w vb xs) :
    Calls Tryd.prog 18 #[va, vb] w fun e w' => e = .returned (.bool true) ∧ Below w.heap.size w w' :=
  (same_any w va vb xs xs ha hb).mono fun _ _ ⟨he, n, hw⟩ => ⟨by rw [he, decide_eq_true rfl], by rw [hw]; exact below_drewN (Below.refl _ _) n⟩
end Go.Proofs.YtmbfccclghnaeaaDoor.mc

/- What mac's tags answer. No claim of its own. -/
namespace Go.Proofs.YtmbfccclghnaeaaDoor.mc
open Go.RowKit
set_option maxRecDepth 20000

theorem Has.heap {w w' : World} {b : Nat} {xs : List Int} (h : Has w b xs) (e : w'.heap[b]? = w.heap[b]?) : Has w' b xs := by
  obtain ⟨st, tl, ⟨h1, h2, h3⟩, h⟩ := h
  exact ⟨st, tl, ⟨h1.heap e, h2.heap e, h3.heap e⟩, h⟩
theorem flat_take (ls : List (List Int)) (k : Nat) (h : k < ls.length) : (ls.take (k + 1)).flatten = (ls.take k).flatten ++ ls.getD k [] := by
  rw [List.take_succ_eq_append_getElem h, List.flatten_append]
  simp [List.getD, h]
theorem flat_le (ls : List (List Int)) (k : Nat) : (ls.take k).flatten.length ≤ ls.flatten.length := by
  have : ls.flatten = (ls.take k).flatten ++ (ls.drop k).flatten := by rw [← List.flatten_append, List.take_append_drop]
  rw [this]; simp
theorem flat_all (ls : List (List Int)) (h : ∀ r, AllB (ls.getD r [])) (k : Nat) : AllB (ls.take k).flatten := allB_mem fun x hx => by
  obtain ⟨l, hl, hxl⟩ := List.mem_flatten.1 hx
  obtain ⟨r, hr, rfl⟩ := List.getElem_of_mem (List.mem_of_mem_take hl)
  obtain ⟨j, hj, rfl⟩ := List.getElem_of_mem hxl
  have := h r j
  simpa [gb, List.getD, hr, hj] using this
theorem Bts.all {w : World} {v : Value} {ls : List (List Int)} (h : Bts w v ls) (r : Nat) : AllB (ls.getD r []) := by
  obtain ⟨ao, cap, rfl, h1, h2, h5, h6⟩ := h
  by_cases hr : r < ls.length
  · obtain ⟨b, off, -, hc⟩ := h5 (by omega)
    obtain ⟨u, -, hu⟩ := hc r hr
    exact hu.all
  · rw [List.getD_eq_getElem?_getD, List.getElem?_eq_none (by omega)]
    exact allB_mem (by simp)
theorem Bts.below {w w' : World} {v : Value} {ls : List (List Int)} (h : Bts w v ls) (hb : Below w.heap.size w w') : Bts w' v ls := by
  obtain ⟨ao, cap, rfl, h1, h2, h5, h6⟩ := h
  refine ⟨ao, cap, rfl, h1, h2, fun hp => ?_, h6⟩
  obtain ⟨b, off, rfl, hc⟩ := h5 hp
  refine ⟨b, off, rfl, fun r hr => ?_⟩
  obtain ⟨u, hu, hub⟩ := hc r hr
  exact ⟨u, (hb.cell (World.block_lt_of_cell? w _ hu)).trans hu, hub.below hb⟩
/-- a slice that a call has made lasts what is written to a hash elsewhere -/
theorem kept64 {w : World} {g b n : Nat} {xs : List Int} (h : Ar w g 0 .u8 xs) (ha : AllB xs) (hn : xs.length = n) (hp : 0 < n) (hm : n ≤ 100000) (hne : g ≠ b) : Kept b w (.slice (some ⟨g, 0, none⟩) n n) xs := by
  subst hn
  exact h.kept ha hp (by omega) hne

set_option maxHeartbeats 4000000 in
theorem ktag_own (w : World) (kv : Value) (bl : List Int) (v : Value) (ls : List (List Int)) (hk : KeyV w kv bl) (hb : Bts w v ls) (hm : ls.flatten.length ≤ 100000) :
    Calls Tryd.prog 53 #[kv, v] w fun e w' => ∃ g, e = .returned (.slice (some ⟨g, 0, none⟩) 32 32) ∧ w.heap.size ≤ g ∧ Ar w' g 0 .u8 (tagB bl ls.flatten) ∧ Below w.heap.size w w' := by
  have HK : Hid (KeyV w kv bl) := hk
  have HM : Hid (ls.flatten.length ≤ 100000) := hm
  have HFT : Hid (∀ k, k < ls.length → (ls.take (k + 1)).flatten = (ls.take k).flatten ++ ls.getD k []) := flat_take ls
  have HFL : Hid (∀ k, (ls.take k).flatten.length ≤ 100000) := fun k => Nat.le_trans (flat_le ls k) hm
  have HFA : Hid (∀ k, AllB (ls.take k).flatten) := flat_all ls hb.all
  have HF0 : Hid ((ls.take 0).flatten = []) := by show _ = _; simp
  have HFE : Hid ((ls.take ls.length).flatten = ls.flatten) := by show _ = _; rw [List.take_length]
  have HP1 : Hid ((pdd bl 54).length = 64 ∧ AllB (pdd bl 54)) := ⟨pdd_len bl 54 hk.len, pdd_all bl 54 hk.len hk.all (by omega)⟩
  have HP2 : Hid ((pdd bl 92).length = 64 ∧ AllB (pdd bl 92)) := ⟨pdd_len bl 92 hk.len, pdd_all bl 92 hk.len hk.all (by omega)⟩
  have HT : Hid (tagB bl ls.flatten = sumOf (pdd bl 92 ++ sumOf (pdd bl 54 ++ ls.flatten))) := rfl
  have HPA1 : Hid (∀ w0, KeyV w0 kv bl → Calls Tryd.prog 69 #[kv, .int .u8 54] w0 fun e w' => ∃ g, e = .returned (.slice (some ⟨g, 0, none⟩) 64 64) ∧ w0.heap.size ≤ g ∧ Ar w' g 0 .u8 (pdd bl 54) ∧ Below w0.heap.size w0 w') := fun w0 h => padded_any w0 kv bl 54 h (by omega)
  have HPA2 : Hid (∀ w0, KeyV w0 kv bl → Calls Tryd.prog 69 #[kv, .int .u8 92] w0 fun e w' => ∃ g, e = .returned (.slice (some ⟨g, 0, none⟩) 64 64) ∧ w0.heap.size ≤ g ∧ Ar w' g 0 .u8 (pdd bl 92) ∧ Below w0.heap.size w0 w') := fun w0 h => padded_any w0 kv bl 92 h (by omega)
  generalize tagB bl ls.flatten = T at *
  generalize pdd bl 54 = p1 at *
  generalize pdd bl 92 = p2 at *
  have HHS : Hid (∀ w0 b l, Has w0 b l → AllB l → l.length ≤ 1000000 → Calls Tryd.prog 70 #[.pointer (some ⟨b, 0, none⟩)] w0 fun e w' => ∃ v, e = .returned v ∧ Byt w' v (sumOf l) ∧ (∃ g, v = .slice (some ⟨g, 0, none⟩) 32 32 ∧ w0.heap.size ≤ g ∧ Ar w' g 0 .u8 (sumOf l)) ∧ Below w0.heap.size w0 w') := fun w0 b l h h2 h3 => hsum_any w0 b l h h2 h3
  have HSL : Hid (∀ l, (sumOf l).length = 32 ∧ AllB (sumOf l)) := fun l => ⟨sumOf_len l, sumOf_all l⟩
  generalize sumOf = SM at *
  have HEA : Hid (AllB []) := allB_mem (by simp)
  obtain ⟨ao, ca, rfl, ha1, ha2, ha5, -⟩ := hb
  obtain ⟨n, hn⟩ : ∃ n, n = ls.length := ⟨_, rfl⟩
  rw [← hn] at ha1 ha5 HFT HFE ⊢
  have HA5 : Hid (0 < n → ∃ b off, ao = some ⟨b, off, none⟩ ∧ ∀ r, r < n → ∃ u, w.cell? ⟨b, off + r, none⟩ = some u ∧ Byt w u (ls.getD r [])) := ha5
  have n2 : (n : Int) ≤ 9223372036854775807 := by omega
  clear hn ha5 hk hm
  obtain ⟨FT, hFT⟩ : ∃ FT : Nat → List Int, FT = fun k => (ls.take k).flatten := ⟨_, rfl⟩
  have HFT' : Hid (∀ k, k < n → FT (k + 1) = FT k ++ ls.getD k []) := by rw [hFT]; exact HFT.out
  have HFL' : Hid (∀ k, (FT k).length ≤ 100000) := by rw [hFT]; exact HFL.out
  have HFA' : Hid (∀ k, AllB (FT k)) := by rw [hFT]; exact HFA.out
  have HF0' : Hid (FT 0 = []) := by rw [hFT]; exact HF0.out
  have HFE' : Hid (FT n = ls.flatten) := by rw [hFT]; exact HFE.out
  clear hFT HFT HFL HFA HF0 HFE
  go_enter Tryd.func53, Tryd.ntmps53
  go_wp2_with (first
    | (go_at_call 67; refine (new_any _).mono ?_; rintro e w1 ⟨b, rfl, hb0, hH1, B1⟩; have HH1 : Hid (Has w1 b []) := hH1; have hb1 : b < w1.heap.size := hH1.lt; clear hH1; have s1 := B1.size; have HK1 : Hid (KeyV w1 kv bl) := HK.out.below B1)
    | (go_at_call 69; refine (HPA1.out _ HK1.out).mono ?_; rintro e w2 ⟨g2, rfl, hg2, hA2, B2⟩; have HK2 : Hid (Kept b w2 (.slice (some ⟨g2, 0, none⟩) 64 64) p1) := kept64 hA2 HP1.out.2 HP1.out.1 (by omega) (by omega) (by omega); have HH2 : Hid (Has w2 b []) := HH1.out.below B2 hb1; have C2 : Below w.heap.size w w2 := B1.trans (B2.mono s1); have s2 := C2.size; clear hA2)
    | (go_at_call 68; refine (write_any _ b [] p1 _ HH2.out HEA.out HK2.out (by have := HP1.out.1; simp; omega)).mono ?_; rintro e w3 ⟨rfl, hH3, hB3⟩; rw [List.nil_append] at hH3; have HH3 : Hid (Has w3 b p1) := hH3; have C3 : Below w.heap.size w w3 := C2.trans (hB3.below hb0 s2); clear hH3 hB3))
  go_loopw [16] (fun i wr => ∃ k : Nat, k ≤ n ∧ i = .int .i64 k ∧ Has wr b (p1 ++ FT k) ∧ Below w.heap.size w wr) (fun i _ => n - (intOf i).toNat)
  case atStart => exact ⟨0, Nat.zero_le _, rfl, by rw [HF0'.out, List.append_nil]; exact HH3.out, C3⟩
  case round =>
    obtain ⟨k, hk, rfl, hH, hbel⟩ := hrel
    have k0 : (0 : Int) ≤ (k : Int) := by omega
    have q1 : IntKind.i64.wrap (k : Int) = k := by rw [IntKind.wrap_i64]; omega
    have HH : Hid (Has wr b (p1 ++ FT k)) := hH
    have hbl := hH.lt
    have hsz := hbel.size
    have HPF : Hid (AllB (p1 ++ FT k) ∧ (p1 ++ FT k).length ≤ 100064) := ⟨allB_append HP1.out.2 (HFA'.out k), by have := HP1.out.1; have := HFL'.out k; simp; omega⟩
    clear hH
    by_cases hlt : k < n
    · have k1 : (k : Int) < (n : Int) := by omega
      have k2 : (k : Int) + 1 ≤ 9223372036854775807 := by omega
      obtain ⟨bl', ol, rfl, hcl⟩ := HA5.out (by omega)
      obtain ⟨u, hu, hub⟩ := hcl k hlt
      have hul := World.block_lt_of_cell? w _ hu
      have xu : wr.cell? ⟨bl', ol + k, none⟩ = some u := (hbel.cell hul).trans hu
      have HKu : Hid (Kept b wr u (ls.getD k [])) := hub.kept hbel hb0
      have HE : Hid (p1 ++ FT k ++ ls.getD k [] = p1 ++ FT (k + 1)) := by show _ = _; rw [HFT'.out k hlt, List.append_assoc]
      have HE2 : Hid ((p1 ++ FT (k + 1)).length ≤ 100064) := by have := HP1.out.1; have := HFL'.out (k + 1); show _ ≤ _; simp; omega
      generalize ls.getD k [] = xs at *
      generalize p1 ++ FT k = acc at *
      obtain ⟨acc2, hacc2⟩ : ∃ x, x = p1 ++ FT (k + 1) := ⟨_, rfl⟩
      rw [← hacc2] at HE HE2
      have HACC : Hid (acc2 = p1 ++ FT (k + 1)) := hacc2
      clear hacc2
      clear hcl hub
      go_wp2_with (go_at_call 68; refine (write_any _ b acc xs _ HH.out HPF.out.1 HKu.out (by have h1 := HE2.out; rw [← HE.out, List.length_append] at h1; omega)).mono ?_; rintro e w4 ⟨rfl, hH4, hB4⟩; rw [HE.out] at hH4; have HH4 : Hid (Has w4 b acc2) := hH4; have C4 : Below w.heap.size w w4 := hbel.trans (hB4.below hb0 hsz); clear hH4 hB4)
      go_roundw
      case rel => exact ⟨k + 1, by omega, by go_num, by rw [← HACC.out]; exact HH4.out, C4⟩
      case measure => simp [intOf]; omega
    · have hkn : k = n := by omega
      subst hkn
      rw [HFE'.out] at HH HPF
      have HKr : Hid (KeyV wr kv bl) := HK.out.below hbel
      generalize ls.flatten = all at *
      go_wp2_with (first
        | (go_at_call 70; refine (HHS.out _ b2 _ HH9.out (allB_append HP2.out.2 (HSL.out _).2) (by have := HP2.out.1; have := (HSL.out (p1 ++ all)).1; simp; omega)).mono ?_; rintro e wa ⟨va, rfl, -, ⟨ga, rfl, hga, hAa⟩, Ba⟩; rw [← HT.out] at hAa; have HAa : Hid (Ar wa ga 0 .u8 T) := hAa; clear hAa)
        | (go_at_call 68; refine (write_any _ b2 p2 (SM (p1 ++ all)) _ HH8.out HP2.out.2 HK8.out (by have := HP2.out.1; have := (HSL.out (p1 ++ all)).1; omega)).mono ?_; rintro e w9 ⟨rfl, hH9, hB9⟩; have HH9 : Hid (Has w9 b2 (p2 ++ SM (p1 ++ all))) := hH9; have C9 : Below w.heap.size w w9 := C8.trans (hB9.below (by omega) C8.size); clear hH9 hB9)
        | (go_at_call 70; refine (HHS.out _ b _ HI7.out HPF.out.1 (by have := HPF.out.2; omega)).mono ?_; rintro e w8 ⟨v8, rfl, -, ⟨g8, rfl, hg8, hA8⟩, B8⟩; have s8 := B8.size; have HK8 : Hid (Kept b2 w8 (.slice (some ⟨g8, 0, none⟩) 32 32) (SM (p1 ++ all))) := kept64 hA8 (HSL.out _).2 (HSL.out _).1 (by omega) (by omega) (by omega); have HH8 : Hid (Has w8 b2 p2) := HH7.out.below B8 hb27; have C8 : Below w.heap.size w w8 := C7.trans (B8.mono C7.size); clear hA8)
        | (go_at_call_of 68 (Value.pointer (some ⟨b2, 0, none⟩)); refine (write_any _ b2 [] p2 _ HH6.out HEA.out HK6.out (by have := HP2.out.1; simp; omega)).mono ?_; rintro e w7 ⟨rfl, hH7, hB7⟩; rw [List.nil_append] at hH7; have HH7 : Hid (Has w7 b2 p2) := hH7; have hb27 : b2 < w7.heap.size := hH7.lt; have HI7 : Hid (Has w7 b (p1 ++ all)) := HI6.out.heap (hB7.block b hbb (by omega)); have s7 := hB7.size; have C7 : Below w.heap.size w w7 := C6.trans (hB7.below (by omega) (by omega)); clear hH7 hB7)
        | (go_at_call 69; refine (HPA2.out _ HK5.out).mono ?_; rintro e w6 ⟨g6, rfl, hg6, hA6, B6⟩; have HK6 : Hid (Kept b2 w6 (.slice (some ⟨g6, 0, none⟩) 64 64) p2) := kept64 hA6 HP2.out.2 HP2.out.1 (by omega) (by omega) (by omega); have HH6 : Hid (Has w6 b2 []) := HH5.out.below B6 hb21; have s6 := B6.size; have hbb : b < w6.heap.size := (by omega); have HI6 : Hid (Has w6 b (p1 ++ all)) := (HH.out.below B5 hbl).below B6 (by omega); have C6 : Below w.heap.size w w6 := hbel.trans ((B5.mono hsz).trans (B6.mono (by omega))); clear hA6)
        | (go_at_call 67; refine (new_any _).mono ?_; rintro e w5 ⟨b2, rfl, hb20, hH5, B5⟩; have HH5 : Hid (Has w5 b2 []) := hH5; have hb21 : b2 < w5.heap.size := hH5.lt; clear hH5; have s5 := B5.size; have HK5 : Hid (KeyV w5 kv bl) := HKr.out.below B5))
      go_ret
      exact ⟨ga, rfl, Nat.le_trans C9.size hga, HAa.out, C9.trans (Ba.mono C9.size)⟩

theorem tagB_len (bl t : List Int) : (tagB bl t).length = 32 := sumOf_len _
theorem tagB_all (bl t : List Int) : AllB (tagB bl t) := sumOf_all _
theorem ar32_byt {w : World} {g : Nat} {xs : List Int} (h : Ar w g 0 .u8 xs) (ha : AllB xs) (hl : xs.length = 32) (cap : Nat) (h1 : 32 ≤ cap) (h2 : cap ≤ 9223372036854775807) : Byt w (.slice (some ⟨g, 0, none⟩) 32 cap) xs := by
  have := h.byt ha 0 32 cap (by omega) (by omega) (by omega) h2
  rwa [List.take_of_length_le (by omega), List.drop_zero] at this
theorem ktag_any (w : World) (kv : Value) (bl : List Int) (v : Value) (ls : List (List Int)) (hk : KeyV w kv bl) (hb : Bts w v ls) (hm : ls.flatten.length ≤ 100000) :
    Calls Tryd.prog 53 #[kv, v] w fun e w' => ∃ v', e = .returned v' ∧ Byt w' v' (tagB bl ls.flatten) ∧ Below w.heap.size w w' :=
  (ktag_own w kv bl v ls hk hb hm).mono fun _ _ ⟨_, he, _, hA, hbl⟩ => ⟨_, he, ar32_byt hA (tagB_all _ _) (tagB_len _ _) 32 (by omega) (by omega), hbl⟩
end Go.Proofs.YtmbfccclghnaeaaDoor.mc

/- What mac's Tag and Fits answer, and a key's Fits. No claim of its own. -/
namespace Go.Proofs.YtmbfccclghnaeaaDoor.mc
open Go.RowKit
set_option maxRecDepth 20000

theorem cell_new (w : World) (x : Value) (t : TypeId) : (w.alloc (.cells #[x] t)).cell? ⟨w.heap.size, 0, none⟩ = some x := by
  rw [cell_of_row (w.alloc (.cells #[x] t)) w.heap.size 0 _ t (0, 0) (heap_alloc_last w _)]
  rfl
/-- a slice of one slice of bytes -/
theorem bts_one {w : World} {u : Value} {ts : List Int} (h : Byt w u ts) (hl : ts.length ≤ 1000000) : Bts (w.alloc (.cells #[u] 23)) (.slice (some ⟨w.heap.size, 0, none⟩) 1 1) [ts] := by
  have hb : Below w.heap.size w (w.alloc (.cells #[u] 23)) := (Below.refl _ _).alloc (Nat.le_refl _) _
  refine ⟨_, _, rfl, by simp, by simp, fun _ => ⟨w.heap.size, 0, rfl, fun r hr => ?_⟩, fun r => ?_⟩
  · have : r = 0 := by simp at hr; exact hr
    subst this
    exact ⟨u, cell_new w u 23, h.below hb⟩
  · match r with
    | 0 => simp [List.getD]; omega
    | r + 1 => simp [List.getD]

section
variable {ops : Array Oper} {rest : List Oper} {o : Oper} {a : Act} {Q : Exit → Act → World → Prop}
/-- '[][]byte{u}', the world gets a name -/
theorem one_law (w : World) (hg : o.guard = none) (x : Operand) (hop : o.op = Op.buildSlice 62 1 #[(0, x)]) (uo : Option Addr) (n uc : Nat) (ts : List Int) (hx : a.eval x = .slice uo n uc) (h : Byt w (.slice uo n uc) ts) (hl : ts.length ≤ 1000000)
    (hK : ∀ w', Bts w' (.slice (some ⟨w.heap.size, 0, none⟩) 1 1) [ts] → Below w.heap.size w w' → wpList Tryd.prog ops Q rest (a.put o.dst (.slice (some ⟨w.heap.size, 0, none⟩) 1 1)) w') : wpList Tryd.prog ops Q (o :: rest) a w := by
  refine wpList_plain hg fun K hK' => ?_
  have hrun : (Instr.buildSlice 62 1 #[(0, .slice uo n uc)]).run Tryd.prog w = .ok (.slice (some ⟨w.heap.size, 0, none⟩) 1 1) (w.alloc (.cells #[.slice uo n uc] 23)) := by kernel_rfl
  unfold Oper.wp execOp
  simp only [hop, List.map_toArray, List.map_cons, List.map_nil, hx, Sem.run_bind, Sem.run_pure, Result.andThen_ok, hrun]
  exact hK' _ _ (hK _ (bts_one h hl) ((Below.refl _ _).alloc (Nat.le_refl _) _))
end

theorem blk_key {w : World} {c : Nat} {xs : List Int} (h : Ar w c 0 .u8 (blk xs)) (ha : AllB xs) : KeyV w (.pointer (some ⟨c, 0, none⟩)) (blk xs) := Or.inr ⟨c, rfl, h, blk_len xs, blk_all xs ha⟩

set_option maxHeartbeats 2000000 in
theorem mtag_any (w : World) (v u : Value) (xs ts : List Int) (h : Byt w v xs) (hu : Byt w u ts) (hn : xs.length ≤ 1000000) (hm : ts.length ≤ 100000) :
    Calls Tryd.prog 30 #[v, u] w fun e w' => ∃ v', e = .returned v' ∧ Byt w' v' (tagB (blk xs) ts) ∧ Below w.heap.size w w' := by
  have HV : Hid (Byt w v xs) := h
  have HU : Hid (Byt w u ts) := hu
  have HXA : Hid (AllB xs) := h.all
  have HM : Hid (ts.length ≤ 100000) := hm
  have HMN : Hid (∀ w0, Byt w0 v xs → Calls Tryd.prog 52 #[v] w0 fun e w' => ∃ c, e = .returned (.pointer (some ⟨c, 0, none⟩)) ∧ KeyV w' (.pointer (some ⟨c, 0, none⟩)) (blk xs) ∧ Below w0.heap.size w0 w') := fun w0 h => (mnew_any w0 v xs h hn).mono fun _ _ ⟨c, he, _, hA, hb⟩ => ⟨c, he, blk_key hA HXA.out, hb⟩
  have HKT : Hid (∀ w0 kv v, KeyV w0 kv (blk xs) → Bts w0 v [ts] → Calls Tryd.prog 53 #[kv, v] w0 fun e w' => ∃ v', e = .returned v' ∧ Byt w' v' (tagB (blk xs) ts) ∧ Below w0.heap.size w0 w') := fun w0 kv v h1 h2 => by
    have e : [ts].flatten = ts := by simp
    have := ktag_any w0 kv (blk xs) v [ts] h1 h2 (by rw [e]; exact hm)
    rwa [e] at this
  generalize tagB (blk xs) ts = T at *
  generalize blk xs = bx at *
  obtain ⟨uo, uc, rfl, u1, u2, -, -, -⟩ := hu
  obtain ⟨n, hnx⟩ : ∃ n, n = ts.length := ⟨_, rfl⟩
  rw [← hnx] at u1 HU ⊢
  clear h hn hm hnx
  go_enter Tryd.func30, Tryd.ntmps30
  go_wp2_with (first
    | (go_at_call 52; refine (HMN.out _ HV.out).mono ?_; rintro e w1 ⟨c, rfl, hk1, b1⟩; have HK1 : Hid (KeyV w1 (.pointer (some ⟨c, 0, none⟩)) bx) := hk1; have HU1 : Hid (Byt w1 (.slice uo n uc) ts) := HU.out.below b1; have s1 := b1.size; clear hk1)
    | (refine one_law _ rfl (.tmp 7) rfl uo n uc ts rfl HU1.out (by have := HM.out; omega) ?_; intro w2 hB2 b2; have HB2 : Hid (Bts w2 (.slice (some ⟨w1.heap.size, 0, none⟩) 1 1) [ts]) := hB2; have HK2 : Hid (KeyV w2 (.pointer (some ⟨c, 0, none⟩)) bx) := HK1.out.below b2; have c2 : Below w.heap.size w w2 := b1.trans (b2.mono s1); clear hB2)
    | (go_at_call 53; refine (HKT.out _ _ _ HK2.out HB2.out).mono ?_; rintro e w3 ⟨v3, rfl, hv3, b3⟩; have HV3 : Hid (Byt w3 v3 T) := hv3; clear hv3))
  go_ret
  exact ⟨_, rfl, HV3.out, c2.trans (b3.mono c2.size)⟩

set_option maxHeartbeats 2000000 in
theorem kfits_any (w : World) (kv : Value) (bl : List Int) (tv : Value) (gs : List Int) (v : Value) (ls : List (List Int)) (hk : KeyV w kv bl) (ht : Byt w tv gs) (hb : Bts w v ls) (hm : ls.flatten.length ≤ 100000) :
    Calls Tryd.prog 62 #[kv, tv, v] w fun e w' => e = .returned (.bool (decide (gs = tagB bl ls.flatten))) ∧ Below w.heap.size w w' := by
  have HT : Hid (Byt w tv gs) := ht
  have HKT : Hid (Calls Tryd.prog 53 #[kv, v] w fun e w' => ∃ v', e = .returned v' ∧ Byt w' v' (tagB bl ls.flatten) ∧ Below w.heap.size w w') := ktag_any w kv bl v ls hk hb hm
  generalize tagB bl ls.flatten = T at *
  clear hk hb ht hm
  go_enter Tryd.func62, Tryd.ntmps62
  go_wp2_with (first
    | (go_at_call 53; refine HKT.out.mono ?_; rintro e w1 ⟨v1, rfl, hv1, b1⟩; have HV1 : Hid (Byt w1 v1 T) := hv1; have HT1 : Hid (Byt w1 tv gs) := HT.out.below b1; clear hv1)
    | (go_at_call 47; refine (oSame_any _ _ gs T _ HT1.out HV1.out).mono ?_; rintro e w2 ⟨rfl, n2, rfl⟩))
  go_ret
  exact ⟨rfl, below_drewN b1 n2⟩

set_option maxHeartbeats 2000000 in
theorem mfits_any (w : World) (v u tv : Value) (xs ts gs : List Int) (h : Byt w v xs) (hu : Byt w u ts) (ht : Byt w tv gs) (hn : xs.length ≤ 1000000) (hm : ts.length ≤ 100000) :
    Calls Tryd.prog 43 #[v, u, tv] w fun e w' => e = .returned (.bool (decide (gs = tagB (blk xs) ts))) ∧ Below w.heap.size w w' := by
  have HV : Hid (Byt w v xs) := h
  have HU : Hid (Byt w u ts) := hu
  have HT : Hid (Byt w tv gs) := ht
  have HXA : Hid (AllB xs) := h.all
  have HM : Hid (ts.length ≤ 100000) := hm
  have HMN : Hid (∀ w0, Byt w0 v xs → Calls Tryd.prog 52 #[v] w0 fun e w' => ∃ c, e = .returned (.pointer (some ⟨c, 0, none⟩)) ∧ KeyV w' (.pointer (some ⟨c, 0, none⟩)) (blk xs) ∧ Below w0.heap.size w0 w') := fun w0 h => (mnew_any w0 v xs h hn).mono fun _ _ ⟨c, he, _, hA, hb⟩ => ⟨c, he, blk_key hA HXA.out, hb⟩
  have HKF : Hid (∀ w0 kv v, KeyV w0 kv (blk xs) → Byt w0 tv gs → Bts w0 v [ts] → Calls Tryd.prog 62 #[kv, tv, v] w0 fun e w' => e = .returned (.bool (decide (gs = tagB (blk xs) ts))) ∧ Below w0.heap.size w0 w') := fun w0 kv v h1 h3 h2 => by
    have e : [ts].flatten = ts := by simp
    have := kfits_any w0 kv (blk xs) tv gs v [ts] h1 h3 h2 (by rw [e]; exact hm)
    rwa [e] at this
  generalize decide (gs = tagB (blk xs) ts) = T at *
  generalize blk xs = bx at *
  obtain ⟨uo, uc, rfl, u1, u2, -, -, -⟩ := hu
  obtain ⟨n, hnx⟩ : ∃ n, n = ts.length := ⟨_, rfl⟩
  rw [← hnx] at u1 HU ⊢
  clear h hn hm hnx ht
  go_enter Tryd.func43, Tryd.ntmps43
  go_wp2_with (first
    | (go_at_call 52; refine (HMN.out _ HV.out).mono ?_; rintro e w1 ⟨c, rfl, hk1, b1⟩; have HK1 : Hid (KeyV w1 (.pointer (some ⟨c, 0, none⟩)) bx) := hk1; have HU1 : Hid (Byt w1 (.slice uo n uc) ts) := HU.out.below b1; have s1 := b1.size; clear hk1)
    | (refine one_law _ rfl (.tmp 10) rfl uo n uc ts rfl HU1.out (by have := HM.out; omega) ?_; intro w2 hB2 b2; have HB2 : Hid (Bts w2 (.slice (some ⟨w1.heap.size, 0, none⟩) 1 1) [ts]) := hB2; have HK2 : Hid (KeyV w2 (.pointer (some ⟨c, 0, none⟩)) bx) := HK1.out.below b2; have c2 : Below w.heap.size w w2 := b1.trans (b2.mono s1); have HT2 : Hid (Byt w2 tv gs) := HT.out.below c2; clear hB2)
    | (go_at_call 62; refine (HKF.out _ _ _ HK2.out HT2.out HB2.out).mono ?_; rintro e w3 ⟨rfl, b3⟩))
  go_ret
  exact ⟨rfl, c2.trans (b3.mono c2.size)⟩
end Go.Proofs.YtmbfccclghnaeaaDoor.mc

