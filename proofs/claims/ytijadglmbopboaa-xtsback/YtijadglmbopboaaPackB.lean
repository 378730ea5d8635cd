/- Texts put together (a claim holds few files). No claim of its own. -/
import Derived.Test.YtijadglmbopboaaPackA
import Derived.Test.YtijadglmbopboaaRows
import Derived.WalkKit
import Derived.Deep.QuietTactic
import Derived.Deep.RegionHeld3
/- AES with keys of 32 bytes, on lists of bytes: a key's words, rounds, encrypting and decrypting; that each undoes the other. No claim of its own. -/
namespace Go.Proofs.Ytijadglmbopboaa
open Go.RowKit

/-- sixteen bytes -/
def Blk (b : List Int) : Prop := b.length = 16 ∧ AllB b
theorem range_gb (f : Nat → Int) (n t : Nat) (h : t < n) : gb ((List.range n).map f) t = f t := by simp [gb, List.getD, h]

/-! ### rows shifted -/
def shi (i by_ : Nat) : Nat := 4 * ((i / 4 + by_ * (i % 4)) % 4) + i % 4
def shl16 (b : List Int) (by_ : Nat) : List Int := (List.range 16).map fun i => gb b (shi i by_)
theorem shl16_len (b : List Int) (n : Nat) : (shl16 b n).length = 16 := by simp [shl16]
theorem shl16_gb (b : List Int) (n t : Nat) (h : t < 16) : gb (shl16 b n) t = gb b (shi t n) := range_gb _ _ _ h
theorem shl16_all (b : List Int) (n : Nat) (h : AllB b) : AllB (shl16 b n) := allB_mem fun x hx => by
  obtain ⟨i, _, rfl⟩ := List.mem_map.1 hx
  exact h _
theorem shl16_blk (b : List Int) (n : Nat) (h : Blk b) : Blk (shl16 b n) := ⟨shl16_len b n, shl16_all b n h.2⟩
theorem shi_lt (i n : Nat) : shi i n < 16 := by unfold shi; omega
theorem shi_31 : ∀ i, i < 16 → shi (shi i 3) 1 = i := by decide
theorem shi_13 : ∀ i, i < 16 → shi (shi i 1) 3 = i := by decide
theorem shl_31 (b : List Int) (h : b.length = 16) : shl16 (shl16 b 1) 3 = b := ext_gb (by rw [shl16_len, h]) fun t ht => by
  rw [shl16_len] at ht
  rw [shl16_gb _ _ _ ht, shl16_gb _ _ _ (shi_lt t 3), shi_31 t ht]
theorem shl_13 (b : List Int) (h : b.length = 16) : shl16 (shl16 b 3) 1 = b := ext_gb (by rw [shl16_len, h]) fun t ht => by
  rw [shl16_len] at ht
  rw [shl16_gb _ _ _ ht, shl16_gb _ _ _ (shi_lt t 1), shi_13 t ht]

/-! ### bytes put for -/
theorem tab_allB {tab : List Int} (h : tab.all (fun x => decide (0 ≤ x ∧ x ≤ 255)) = true) : AllB tab := allB_mem fun x hx => by
  simpa using List.all_eq_true.1 h x hx
theorem pAll : AllB ptab := tab_allB (by decide +kernel)
theorem bAll : AllB btab := tab_allB (by decide +kernel)
theorem looked_blk (tab b : List Int) (ht : AllB tab) (h : b.length = 16) : Blk (looked tab b) := ⟨by rw [looked_len, h], looked_all tab b ht⟩
theorem looked_bp (b : List Int) (h : AllB b) : looked btab (looked ptab b) = b := ext_gb (by rw [looked_len, looked_len]) fun t ht => by
  rw [looked_len, looked_len] at ht
  rw [looked_gb _ _ _ (by rw [looked_len]; exact ht), looked_gb _ _ _ ht]
  have hb := h t
  have h8 : (gb b t).toNat < 256 := by omega
  rw [gb_p _ h8, Int.toNat_natCast, gb_b _ (sb_lt _ h8), sk_sb _ h8]
  omega
theorem looked_pb (b : List Int) (h : AllB b) : looked ptab (looked btab b) = b := ext_gb (by rw [looked_len, looked_len]) fun t ht => by
  rw [looked_len, looked_len] at ht
  rw [looked_gb _ _ _ (by rw [looked_len]; exact ht), looked_gb _ _ _ ht]
  have hb := h t
  have h8 : (gb b t).toNat < 256 := by omega
  rw [gb_b _ h8, Int.toNat_natCast, gb_p _ (sk_lt _ h8), sb_sk _ h8]
  omega

/-! ### columns mixed -/
def colOf (b : List Int) (c : Nat) : List Nat := [(gb b (4 * c)).toNat, (gb b (4 * c + 1)).toNat, (gb b (4 * c + 2)).toNat, (gb b (4 * c + 3)).toNat]
theorem colOf_col (b : List Int) (c : Nat) (h : AllB b) : Col (colOf b c) := by
  have h0 := h (4 * c)
  have h1 := h (4 * c + 1)
  have h2 := h (4 * c + 2)
  have h3 := h (4 * c + 3)
  exact col4 _ _ _ _ (by omega) (by omega) (by omega) (by omega)
theorem colOf_gn (b : List Int) (c i : Nat) (h : i < 4) : gn (colOf b c) i = (gb b (4 * c + i)).toNat := by
  match i, h with
  | 0, _ => rfl
  | 1, _ => rfl
  | 2, _ => rfl
  | 3, _ => rfl
def mixb (b : List Int) (ws : List Nat) : List Int := (List.range 16).map fun i => (gn (trn (colOf b (i / 4)) ws) (i % 4) : Int)
theorem mixb_len (b : List Int) (ws : List Nat) : (mixb b ws).length = 16 := by simp [mixb]
theorem mixb_gb (b : List Int) (ws : List Nat) (t : Nat) (h : t < 16) : gb (mixb b ws) t = (gn (trn (colOf b (t / 4)) ws) (t % 4) : Int) := range_gb _ _ _ h
theorem mixb_blk (b : List Int) (ws : List Nat) (hw : Col ws) : Blk (mixb b ws) := ⟨mixb_len b ws, allB_mem fun x hx => by
  obtain ⟨i, _, rfl⟩ := List.mem_map.1 hx
  have := (trn_col (colOf b (i / 4)) ws hw).2 (i % 4)
  omega⟩
theorem colOf_mixb (b : List Int) (ws : List Nat) (c : Nat) (h : c < 4) : colOf (mixb b ws) c = trn (colOf b c) ws := by
  have e : ∀ i, i < 4 → (gb (mixb b ws) (4 * c + i)).toNat = gn (trn (colOf b c) ws) i := fun i hi => by
    rw [mixb_gb b ws _ (by omega), show (4 * c + i) / 4 = c by omega, show (4 * c + i) % 4 = i by omega, Int.toNat_natCast]
  have e0 := e 0 (by omega)
  have e1 := e 1 (by omega)
  have e2 := e 2 (by omega)
  have e3 := e 3 (by omega)
  rw [Nat.add_zero] at e0
  unfold colOf at *
  rw [e0, e1, e2, e3]
  rfl
theorem mixb_back (b : List Int) (us vs : List Nat) (h : Blk b) (hb : ∀ l, Col l → trn (trn l us) vs = l) : mixb (mixb b us) vs = b := ext_gb (by rw [mixb_len, h.1]) fun t ht => by
  rw [mixb_len] at ht
  rw [mixb_gb _ _ _ ht, colOf_mixb b us _ (by omega), hb _ (colOf_col b _ h.2), colOf_gn b _ _ (by omega), show 4 * (t / 4) + t % 4 = t by omega]
  have := h.2 t
  omega
theorem mixb_um (b : List Int) (h : Blk b) : mixb (mixb b mixW) unmW = b := mixb_back b mixW unmW h unmix_mix
theorem mixb_mu (b : List Int) (h : Blk b) : mixb (mixb b unmW) mixW = b := mixb_back b unmW mixW h mix_unmix

/-! ### a key's words -/
/-- four bytes -/
def Wd (x : List Int) : Prop := x.length = 4 ∧ AllB x
def cut4 (key : List Int) (i : Nat) : List Int := (key.take (4 * i + 4)).drop (4 * i)
/-- what is xored to the word eight ahead -/
def mid (i : Nat) (x : List Int) : List Int :=
  if i % 8 = 0 then [xr (gb ptab (gb x 1).toNat) (pw 2 (i / 8 - 1) : Int), gb ptab (gb x 2).toNat, gb ptab (gb x 3).toNat, gb ptab (gb x 0).toNat]
  else if i % 8 = 4 then [gb ptab (gb x 0).toNat, gb ptab (gb x 1).toNat, gb ptab (gb x 2).toNat, gb ptab (gb x 3).toNat] else x
/-- the next word -/
def nxt (key : List Int) (ws : List (List Int)) (i : Nat) : List Int := if i < 8 then cut4 key i else xorl (ws.getD (i - 8) []) (mid i (ws.getD (i - 1) []))
/-- the first n words -/
def wds (key : List Int) : Nat → List (List Int)
  | 0 => []
  | n + 1 => wds key n ++ [nxt key (wds key n) n]
theorem wds_len (key : List Int) (n : Nat) : (wds key n).length = n := by
  induction n with
  | zero => rfl
  | succ n ih => simp [wds, ih]
/-- word i -/
def wd (key : List Int) (i : Nat) : List Int := nxt key (wds key i) i
theorem wds_get (key : List Int) (n i : Nat) (h : i < n) : (wds key n).getD i [] = wd key i := by
  induction n with
  | zero => omega
  | succ n ih =>
    rw [wds, List.getD_eq_getElem?_getD]
    by_cases h' : i < n
    · rw [List.getElem?_append_left (by rw [wds_len]; exact h'), ← List.getD_eq_getElem?_getD, ih h']
    · have : i = n := by omega
      subst this
      rw [List.getElem?_append_right (by rw [wds_len]; omega), wds_len]
      simp [wd]
theorem wd_eq (key : List Int) (i : Nat) : wd key i = if i < 8 then cut4 key i else xorl (wd key (i - 8)) (mid i (wd key (i - 1))) := by
  rw [wd, nxt]
  by_cases h : i < 8
  · rw [if_pos h, if_pos h]
  · rw [if_neg h, if_neg h, wds_get key i (i - 8) (by omega), wds_get key i (i - 1) (by omega)]
theorem wd4 (a b c d : Int) (ha : 0 ≤ a ∧ a ≤ 255) (hb : 0 ≤ b ∧ b ≤ 255) (hc : 0 ≤ c ∧ c ≤ 255) (hd : 0 ≤ d ∧ d ≤ 255) : Wd [a, b, c, d] := ⟨rfl, allB_mem fun x hx => by
  simp at hx
  rcases hx with rfl | rfl | rfl | rfl <;> assumption⟩
theorem mid_wd (i : Nat) (x : List Int) (h : Wd x) : Wd (mid i x) := by
  have hp : ∀ j, 0 ≤ gb ptab j ∧ gb ptab j ≤ 255 := pAll
  unfold mid
  by_cases h0 : i % 8 = 0
  · rw [if_pos h0]
    have := pw_lt 2 (i / 8 - 1)
    exact wd4 _ _ _ _ (xr_bd _ _ (hp _) (by omega)) (hp _) (hp _) (hp _)
  · rw [if_neg h0]
    by_cases h4 : i % 8 = 4
    · rw [if_pos h4]; exact wd4 _ _ _ _ (hp _) (hp _) (hp _) (hp _)
    · rw [if_neg h4]; exact h
theorem cut4_gb (key : List Int) (i t : Nat) (h : t < 4) : gb (cut4 key i) t = gb key (4 * i + t) := gb_cut key (4 * i) (4 * i + 4) t (by omega)
theorem cut4_wd (key : List Int) (i : Nat) (hk : AllB key) (h : 4 * i + 4 ≤ key.length) : Wd (cut4 key i) := ⟨by simp [cut4]; omega, allB_mem fun x hx => by
  obtain ⟨j, hj, rfl⟩ := mem_gb (List.mem_of_mem_take (List.mem_of_mem_drop hx))
  exact hk j⟩
theorem xorl_wd (x y : List Int) (hx : Wd x) (hy : Wd y) : Wd (xorl x y) := ⟨by rw [xorl_len _ _ (by rw [hx.1, hy.1]), hx.1], xorl_all _ _ (by rw [hx.1, hy.1]) hx.2 hy.2⟩
theorem wd_wd (key : List Int) (hk : key.length = 32) (ha : AllB key) (i : Nat) : Wd (wd key i) := by
  induction i using Nat.strongRecOn with
  | ind i ih =>
    rw [wd_eq]
    by_cases h : i < 8
    · rw [if_pos h]; exact cut4_wd key i ha (by omega)
    · rw [if_neg h]; exact xorl_wd _ _ (ih _ (by omega)) (mid_wd i _ (ih _ (by omega)))
/-- a round's key -/
def rk (key : List Int) (r : Nat) : List Int := wd key (4 * r) ++ wd key (4 * r + 1) ++ wd key (4 * r + 2) ++ wd key (4 * r + 3)
theorem rk_blk (key : List Int) (hk : key.length = 32) (ha : AllB key) (r : Nat) : Blk (rk key r) := by
  have h0 := wd_wd key hk ha (4 * r)
  have h1 := wd_wd key hk ha (4 * r + 1)
  have h2 := wd_wd key hk ha (4 * r + 2)
  have h3 := wd_wd key hk ha (4 * r + 3)
  refine ⟨by simp [rk, h0.1, h1.1, h2.1, h3.1], allB_mem fun x hx => ?_⟩
  simp only [rk, List.mem_append] at hx
  rcases hx with ((hx | hx) | hx) | hx
  · obtain ⟨j, _, rfl⟩ := mem_gb hx; exact h0.2 j
  · obtain ⟨j, _, rfl⟩ := mem_gb hx; exact h1.2 j
  · obtain ⟨j, _, rfl⟩ := mem_gb hx; exact h2.2 j
  · obtain ⟨j, _, rfl⟩ := mem_gb hx; exact h3.2 j

/-! ### rounds -/
theorem xorl_blk (x y : List Int) (hx : Blk x) (hy : Blk y) : Blk (xorl x y) := ⟨by rw [xorl_len _ _ (by rw [hx.1, hy.1]), hx.1], xorl_all _ _ (by rw [hx.1, hy.1]) hx.2 hy.2⟩
theorem xorl_bb (x y : List Int) (hx : Blk x) (hy : Blk y) : xorl (xorl x y) y = x := xorl_back x y (by rw [hx.1, hy.1]) hx.2
/-- mixing, in all rounds but the last -/
def mx (r : Nat) (b : List Int) : List Int := if r < 14 then mixb b mixW else b
def um (r : Nat) (b : List Int) : List Int := if r < 14 then mixb b unmW else b
theorem mx_blk (r : Nat) (b : List Int) (h : Blk b) : Blk (mx r b) := by unfold mx; split; exact mixb_blk _ _ mixW_col; exact h
theorem um_blk (r : Nat) (b : List Int) (h : Blk b) : Blk (um r b) := by unfold um; split; exact mixb_blk _ _ unmW_col; exact h
theorem um_mx (r : Nat) (b : List Int) (h : Blk b) : um r (mx r b) = b := by
  unfold um mx
  by_cases hr : r < 14
  · rw [if_pos hr, if_pos hr, mixb_um b h]
  · rw [if_neg hr, if_neg hr]
theorem mx_um (r : Nat) (b : List Int) (h : Blk b) : mx r (um r b) = b := by
  unfold um mx
  by_cases hr : r < 14
  · rw [if_pos hr, if_pos hr, mixb_mu b h]
  · rw [if_neg hr, if_neg hr]
/-- one round -/
def fw (key : List Int) (r : Nat) (b : List Int) : List Int := xorl (mx r (shl16 (looked ptab b) 1)) (rk key r)
def bw (key : List Int) (r : Nat) (b : List Int) : List Int := looked btab (shl16 (um r (xorl b (rk key r))) 3)
theorem bw_blk (key : List Int) (r : Nat) (b : List Int) : Blk (bw key r b) := looked_blk _ _ bAll (shl16_len _ _)
theorem fw_blk (key : List Int) (hk : key.length = 32) (ha : AllB key) (r : Nat) (b : List Int) (h : Blk b) : Blk (fw key r b) := xorl_blk _ _ (mx_blk r _ (shl16_blk _ _ (looked_blk _ _ pAll h.1))) (rk_blk key hk ha r)
theorem bw_fw (key : List Int) (hk : key.length = 32) (ha : AllB key) (r : Nat) (b : List Int) (h : Blk b) : bw key r (fw key r b) = b := by
  have h1 := looked_blk ptab b pAll h.1
  have h2 := shl16_blk _ 1 h1
  unfold bw fw
  rw [xorl_bb _ _ (mx_blk r _ h2) (rk_blk key hk ha r), um_mx r _ h2, shl_31 _ h1.1, looked_bp b h.2]
theorem fw_bw (key : List Int) (hk : key.length = 32) (ha : AllB key) (r : Nat) (b : List Int) (h : Blk b) : fw key r (bw key r b) = b := by
  have h1 := xorl_blk b _ h (rk_blk key hk ha r)
  have h2 := um_blk r _ h1
  have h3 := shl16_blk _ 3 h2
  unfold bw fw
  rw [looked_pb _ h3.2, shl_13 _ h2.1, mx_um r _ h1, xorl_bb _ _ h (rk_blk key hk ha r)]
/-- encrypting, behind r rounds -/
def enc (key b : List Int) : Nat → List Int
  | 0 => xorl b (rk key 0)
  | r + 1 => fw key (r + 1) (enc key b r)
/-- decrypting, behind k rounds -/
def dec (key b : List Int) : Nat → List Int
  | 0 => b
  | k + 1 => bw key (14 - k) (dec key b k)
def encr (key b : List Int) : List Int := enc key b 14
def decr (key b : List Int) : List Int := xorl (dec key b 14) (rk key 0)
theorem dec_blk (key b : List Int) (h : Blk b) (k : Nat) : Blk (dec key b k) := by
  cases k with
  | zero => exact h
  | succ k => exact bw_blk key _ _
theorem enc_blk (key : List Int) (hk : key.length = 32) (ha : AllB key) (b : List Int) (h : Blk b) (r : Nat) : Blk (enc key b r) := by
  induction r with
  | zero => exact xorl_blk _ _ h (rk_blk key hk ha 0)
  | succ r ih => exact fw_blk key hk ha _ _ ih
theorem encr_blk (key : List Int) (hk : key.length = 32) (ha : AllB key) (b : List Int) (h : Blk b) : Blk (encr key b) := enc_blk key hk ha b h 14
theorem decr_blk (key : List Int) (hk : key.length = 32) (ha : AllB key) (b : List Int) (h : Blk b) : Blk (decr key b) := xorl_blk _ _ (dec_blk key b h 14) (rk_blk key hk ha 0)
theorem dec_enc (key : List Int) (hk : key.length = 32) (ha : AllB key) (b : List Int) (h : Blk b) (k : Nat) (hk14 : k ≤ 14) : dec key (encr key b) k = enc key b (14 - k) := by
  induction k with
  | zero => rfl
  | succ k ih =>
    rw [dec, ih (by omega), show 14 - k = (14 - (k + 1)) + 1 by omega, enc, bw_fw key hk ha _ _ (enc_blk key hk ha b h _)]
theorem decr_encr (key : List Int) (hk : key.length = 32) (ha : AllB key) (b : List Int) (h : Blk b) : decr key (encr key b) = b := by
  unfold decr
  rw [dec_enc key hk ha b h 14 (by omega)]
  exact xorl_bb _ _ h (rk_blk key hk ha 0)
theorem enc_dec (key : List Int) (hk : key.length = 32) (ha : AllB key) (b : List Int) (h : Blk b) (r : Nat) (hr : r ≤ 14) : enc key (decr key b) r = dec key b (14 - r) := by
  induction r with
  | zero =>
    rw [enc, decr]
    exact xorl_bb _ _ (dec_blk key b h 14) (rk_blk key hk ha 0)
  | succ r ih =>
    have e := ih (by omega)
    rw [show 14 - r = (14 - (r + 1)) + 1 by omega, dec, show 14 - (14 - (r + 1)) = r + 1 by omega] at e
    rw [enc, e, fw_bw key hk ha _ _ (dec_blk key b h _)]
theorem encr_decr (key : List Int) (hk : key.length = 32) (ha : AllB key) (b : List Int) (h : Blk b) : encr key (decr key b) = b := enc_dec key hk ha b h 14 (by omega)
end Go.Proofs.Ytijadglmbopboaa

/- What sbox's Subs and Backs answer; that the program answers at all. No claim of its own. -/
namespace Go.Proofs.Ytijadglmbopboaa
open Go.RowKit

theorem ptab_allB : AllB ptab := allB_mem fun x hx => by
  have h : ptab.all (fun x => decide (0 ≤ x ∧ x ≤ 255)) = true := by decide +kernel
  simpa using List.all_eq_true.1 h x hx
theorem btab_allB : AllB btab := allB_mem fun x hx => by
  have h : btab.all (fun x => decide (0 ≤ x ∧ x ≤ 255)) = true := by decide +kernel
  simpa using List.all_eq_true.1 h x hx

set_option maxHeartbeats 2000000 in
theorem subs_any (v : Value) (xs : List Int) (w : World) (hv : Byt w v xs) (hmax : xs.length ≤ 1048576) :
    Calls Try.prog 44 #[v] w fun e w' => ∃ v', e = .returned v' ∧ Byt w' v' (looked ptab xs) ∧ Below w.heap.size w w' := by
  have HV : Hid (Byt w v xs) := hv
  have HM : Hid (xs.length ≤ 1048576) := hmax
  clear hv hmax
  go_enter Try.func44, Try.ntmps44
  go_wp2_with (first
    | (go_at_call 64; refine (look_any v xs ptab _ (HV.out.below B1) ptab_len ptab_allB HM.out).mono ?_; rintro e w2 ⟨v2, rfl, Y2, B2⟩)
    | (go_at_call 65; refine (puts_any _).mono ?_; rintro e w1 ⟨rfl, B1⟩))
  go_ret
  exact ⟨_, rfl, Y2, B1.trans (B2.mono B1.size)⟩

set_option maxHeartbeats 2000000 in
theorem backsl_any (v : Value) (xs : List Int) (w : World) (hv : Byt w v xs) (hmax : xs.length ≤ 1048576) :
    Calls Try.prog 51 #[v] w fun e w' => ∃ v', e = .returned v' ∧ Byt w' v' (looked btab xs) ∧ Below w.heap.size w w' := by
  have HV : Hid (Byt w v xs) := hv
  have HM : Hid (xs.length ≤ 1048576) := hmax
  clear hv hmax
  go_enter Try.func51, Try.ntmps51
  go_wp2_with (first
    | (go_at_call 64; refine (look_any v xs btab _ (HV.out.below B1) btab_len btab_allB HM.out).mono ?_; rintro e w2 ⟨v2, rfl, Y2, B2⟩)
    | (go_at_call 68; refine (backs_any _).mono ?_; rintro e w1 ⟨rfl, B1⟩))
  go_ret
  exact ⟨_, rfl, Y2, B1.trans (B2.mono B1.size)⟩

theorem sb_83 : sb 83 = 237 := by decide +kernel
theorem sk_237 : sk 237 = 83 := by decide +kernel
end Go.Proofs.Ytijadglmbopboaa

/- What sbox's Word answers. No claim of its own. -/
namespace Go.Proofs.Ytijadglmbopboaa
open Go.RowKit

/-- byte i of a word, from below -/
def wb (x i : Nat) : Nat := x / 256 ^ i % 256
theorem wb_lt (x i : Nat) : wb x i < 256 := Nat.mod_lt _ (by omega)
/-- what is put for the first k bytes of a word -/
def wsum (x : Nat) : Nat → Nat
  | 0 => 0
  | k + 1 => wsum x k + 256 ^ k * sb (wb x k)
theorem wsum_lt (x k : Nat) : wsum x k < 256 ^ k := by
  induction k with
  | zero => simp [wsum]
  | succ k ih =>
    have h := sb_lt _ (wb_lt x k)
    have : 256 ^ k * sb (wb x k) ≤ 256 ^ k * 255 := Nat.mul_le_mul_left _ (by omega)
    rw [wsum, Nat.pow_succ]; omega
theorem join4 (a b c d : Nat) (ha : a < 256) (hb : b < 256) (hc : c < 256) (hd : d < 256) :
    bits .or .u32 (bits .or .u32 (bits .or .u32 (IntKind.u32.wrap (IntKind.u32.wrap (a : Int) * 16777216)) (IntKind.u32.wrap (IntKind.u32.wrap (b : Int) * 65536))) (IntKind.u32.wrap (IntKind.u32.wrap (c : Int) * 256))) (IntKind.u32.wrap (d : Int)) = ((a * 16777216 + b * 65536 + c * 256 + d : Nat) : Int) := by
  have e1 : IntKind.u32.wrap (IntKind.u32.wrap (a : Int) * 16777216) = ((2 ^ 24 * a : Nat) : Int) := by rw [IntKind.wrap_u32', IntKind.wrap_u32']; omega
  have e2 : IntKind.u32.wrap (IntKind.u32.wrap (b : Int) * 65536) = ((2 ^ 16 * b : Nat) : Int) := by rw [IntKind.wrap_u32', IntKind.wrap_u32']; omega
  have e3 : IntKind.u32.wrap (IntKind.u32.wrap (c : Int) * 256) = ((2 ^ 8 * c : Nat) : Int) := by rw [IntKind.wrap_u32', IntKind.wrap_u32']; omega
  have e4 : IntKind.u32.wrap (d : Int) = (d : Int) := by rw [IntKind.wrap_u32']; omega
  rw [e1, e2, e3, e4, u32_or_nat _ _ (by omega) (by omega), ← Nat.two_pow_add_eq_or_of_lt (by omega) a]
  rw [show 2 ^ 24 * a + 2 ^ 16 * b = 2 ^ 16 * (256 * a + b) by omega, u32_or_nat _ _ (by omega) (by omega), ← Nat.two_pow_add_eq_or_of_lt (by omega) (256 * a + b)]
  rw [show 2 ^ 16 * (256 * a + b) + 2 ^ 8 * c = 2 ^ 8 * (65536 * a + 256 * b + c) by omega, u32_or_nat _ _ (by omega) (by omega), ← Nat.two_pow_add_eq_or_of_lt (by omega) (65536 * a + 256 * b + c)]
  omega

set_option maxRecDepth 20000 in
set_option maxHeartbeats 2000000 in
theorem word_any (x : Nat) (w : World) :
    Calls Try.prog 70 #[.int .u32 x] w fun e w' => e = .returned (.int .u32 (wsum x 4)) ∧ Below w.heap.size w w' := by
  have h3 : IntKind.u8.wrap ((x : Int) / 16777216) = (wb x 3 : Int) := by rw [IntKind.wrap_u8']; simp only [wb]; omega
  have h2 : IntKind.u8.wrap ((x : Int) / 65536) = (wb x 2 : Int) := by rw [IntKind.wrap_u8']; simp only [wb]; omega
  have h1 : IntKind.u8.wrap ((x : Int) / 256) = (wb x 1 : Int) := by rw [IntKind.wrap_u8']; simp only [wb]; omega
  have h0 : IntKind.u8.wrap (x : Int) = (wb x 0 : Int) := by rw [IntKind.wrap_u8']; simp only [wb]; omega
  have l3 := wb_lt x 3
  have l2 := wb_lt x 2
  have l1 := wb_lt x 1
  have l0 := wb_lt x 0
  have g3 := gb_p _ l3
  have g2 := gb_p _ l2
  have g1 := gb_p _ l1
  have g0 := gb_p _ l0
  have m3 := sb_lt _ l3
  have m2 := sb_lt _ l2
  have m1 := sb_lt _ l1
  have m0 := sb_lt _ l0
  have HW : Hid (wsum x 4 = sb (wb x 3) * 16777216 + sb (wb x 2) * 65536 + sb (wb x 1) * 256 + sb (wb x 0)) := by
    show _ = _
    simp only [wsum]; omega
  have HJ : Hid (sb (wb x 3) < 256 ∧ sb (wb x 2) < 256 ∧ sb (wb x 1) < 256 ∧ sb (wb x 0) < 256) := ⟨m3, m2, m1, m0⟩
  clear m3 m2 m1 m0
  generalize wsum x 4 = r at *
  generalize wb x 3 = i3 at *
  generalize wb x 2 = i2 at *
  generalize wb x 1 = i1 at *
  generalize wb x 0 = i0 at *
  generalize sb i3 = s3 at *
  generalize sb i2 = s2 at *
  generalize sb i1 = s1 at *
  generalize sb i0 = s0 at *
  have HG : Hid (gb ptab i3 = (s3 : Int) ∧ gb ptab i2 = (s2 : Int) ∧ gb ptab i1 = (s1 : Int) ∧ gb ptab i0 = (s0 : Int)) := ⟨g3, g2, g1, g0⟩
  clear g3 g2 g1 g0
  go_enter Try.func70, Try.ntmps70
  go_wp2_with (first
    | (go_at_call 65; refine (puts_any _).mono ?_; rintro e w1 ⟨rfl, B1⟩)
    | (have q1 := B1; refine new_lawF _ rfl 92 rfl .u8 z256 z_arr256 ?_; intro w2 A2 B2 z2; have HA2 : Hid (Ar w2 w1.heap.size 0 .u8 z256) := A2; clear A2)
    | (refine store_lawF _ rfl (.tmp 3) (.tmp 4) 92 rfl .u8 z256 ptab w1.heap.size rfl rfl HA2.out 256 i_arr256 z256_len ptab_len ?_; intro w3 A3 B3; have HA3 : Hid (Ar w3 w1.heap.size 0 .u8 ptab) := A3; clear A3))
  have c3 := HA3.out.cell0 i3 (by rw [ptab_len]; exact l3)
  have c2 := HA3.out.cell0 i2 (by rw [ptab_len]; exact l2)
  have c1 := HA3.out.cell0 i1 (by rw [ptab_len]; exact l1)
  have c0 := HA3.out.cell0 i0 (by rw [ptab_len]; exact l0)
  rw [HG.out.1] at c3
  rw [HG.out.2.1] at c2
  rw [HG.out.2.2.1] at c1
  rw [HG.out.2.2.2] at c0
  have o3 : (i3 : Int) < 256 := by omega
  have o2 : (i2 : Int) < 256 := by omega
  have o1 : (i1 : Int) < 256 := by omega
  have o0 : (i0 : Int) < 256 := by omega
  go_quiet (fail)
  go_wp2
  go_ret
  refine ⟨ret_int ?_, below_drewN ((B1.trans (B2.mono (by have := B1.size; omega))).trans (B3.mono (by have := B1.size; omega))) _⟩
  rw [HW.out]
  exact join4 s3 s2 s1 s0 HJ.out.1 HJ.out.2.1 HJ.out.2.2.1 HJ.out.2.2.2
end Go.Proofs.Ytijadglmbopboaa

/- Words of four bytes as numbers: xored, put for, rotated. No claim of its own. -/
namespace Go.Proofs.Ytijadglmbopboaa
open Go.RowKit

/-- the number of four bytes, the greatest first -/
def n4 (x : List Int) : Nat := (gb x 0).toNat * 16777216 + (gb x 1).toNat * 65536 + (gb x 2).toNat * 256 + (gb x 3).toNat
theorem wd_bd {x : List Int} (h : Wd x) (i : Nat) : (gb x i).toNat < 256 ∧ gb x i = ((gb x i).toNat : Int) := by have := h.2 i; omega
theorem n4_lt (x : List Int) (h : Wd x) : n4 x < 4294967296 := by
  have h0 := (wd_bd h 0).1
  have h1 := (wd_bd h 1).1
  have h2 := (wd_bd h 2).1
  have h3 := (wd_bd h 3).1
  unfold n4; omega
theorem join_xor (k a b c d : Nat) (hb : b < 2 ^ k) (hd : d < 2 ^ k) : (2 ^ k * a + b) ^^^ (2 ^ k * c + d) = 2 ^ k * (a ^^^ c) + (b ^^^ d) := by
  apply Nat.eq_of_testBit_eq
  intro j
  rw [Nat.testBit_xor, Nat.testBit_two_pow_mul_add a hb j, Nat.testBit_two_pow_mul_add c hd j, Nat.testBit_two_pow_mul_add (a ^^^ c) (Nat.xor_lt_two_pow hb hd) j]
  by_cases h : j < k
  · simp [h]
  · simp [h]
theorem n4_form (x : List Int) : n4 x = 2 ^ 8 * (2 ^ 8 * (2 ^ 8 * (gb x 0).toNat + (gb x 1).toNat) + (gb x 2).toNat) + (gb x 3).toNat := by unfold n4; omega
theorem n4_xor (x y : List Int) (hx : Wd x) (hy : Wd y) : n4 (xorl x y) = n4 x ^^^ n4 y := by
  have hl : x.length = y.length := by rw [hx.1, hy.1]
  have e : ∀ i, i < 4 → (gb (xorl x y) i).toNat = (gb x i).toNat ^^^ (gb y i).toNat := fun i hi => by
    rw [xorl_gb x y hl i (by rw [hx.1]; exact hi)]
    simp [xr]
  have x1 := (wd_bd hx 1).1
  have x2 := (wd_bd hx 2).1
  have x3 := (wd_bd hx 3).1
  have y1 := (wd_bd hy 1).1
  have y2 := (wd_bd hy 2).1
  have y3 := (wd_bd hy 3).1
  rw [n4_form, n4_form x, n4_form y, e 0 (by omega), e 1 (by omega), e 2 (by omega), e 3 (by omega), join_xor 8 _ _ _ _ x3 y3, join_xor 8 _ _ _ _ x2 y2, join_xor 8 _ _ _ _ x1 y1]
theorem wb_n4 (x : List Int) (h : Wd x) : wb (n4 x) 0 = (gb x 3).toNat ∧ wb (n4 x) 1 = (gb x 2).toNat ∧ wb (n4 x) 2 = (gb x 1).toNat ∧ wb (n4 x) 3 = (gb x 0).toNat := by
  have h0 := (wd_bd h 0).1
  have h1 := (wd_bd h 1).1
  have h2 := (wd_bd h 2).1
  have h3 := (wd_bd h 3).1
  unfold wb n4
  refine ⟨?_, ?_, ?_, ?_⟩ <;> omega
theorem wsum_n4 (x : List Int) (h : Wd x) : wsum (n4 x) 4 = n4 (looked ptab x) := by
  obtain ⟨e0, e1, e2, e3⟩ := wb_n4 x h
  have g : ∀ i, i < 4 → (gb (looked ptab x) i).toNat = sb (gb x i).toNat := fun i hi => by
    rw [looked_gb _ _ _ (by rw [h.1]; exact hi), gb_p _ (wd_bd h i).1, Int.toNat_natCast]
  simp only [wsum, e0, e1, e2, e3]
  rw [n4, g 0 (by omega), g 1 (by omega), g 2 (by omega), g 3 (by omega)]
  omega
/-- rotated by one byte -/
def rot1 (x : List Int) : List Int := [gb x 1, gb x 2, gb x 3, gb x 0]
theorem rot1_wd (x : List Int) (h : Wd x) : Wd (rot1 x) := wd4 _ _ _ _ (h.2 1) (h.2 2) (h.2 3) (h.2 0)
theorem n4_rot (x : List Int) (h : Wd x) : n4 (rot1 x) = n4 x * 256 % 4294967296 + n4 x / 16777216 := by
  have h0 := (wd_bd h 0).1
  have h1 := (wd_bd h 1).1
  have h2 := (wd_bd h 2).1
  have h3 := (wd_bd h 3).1
  show (gb x 1).toNat * 16777216 + (gb x 2).toNat * 65536 + (gb x 3).toNat * 256 + (gb x 0).toNat = _
  unfold n4
  omega
theorem four_gb (x : List Int) (h : x.length = 4) : x = [gb x 0, gb x 1, gb x 2, gb x 3] := by
  match x, h with
  | [a, b, c, d], _ => rfl
theorem looked_wd (x : List Int) (h : x.length = 4) : Wd (looked ptab x) := ⟨by rw [looked_len, h], looked_all _ _ pAll⟩
/-- what is xored to the word eight ahead, as a number -/
theorem n4_mid (i : Nat) (x : List Int) (h : Wd x) : n4 (mid i x) = if i % 8 = 0 then wsum (n4 x * 256 % 4294967296 + n4 x / 16777216) 4 ^^^ pw 2 (i / 8 - 1) * 16777216 else if i % 8 = 4 then wsum (n4 x) 4 else n4 x := by
  by_cases h0 : i % 8 = 0
  · rw [if_pos h0, ← n4_rot x h, wsum_n4 _ (rot1_wd x h)]
    have hp := pw_lt 2 (i / 8 - 1)
    have hr := looked_wd (rot1 x) rfl
    have e : mid i x = xorl (looked ptab (rot1 x)) [(pw 2 (i / 8 - 1) : Int), 0, 0, 0] := by
      have hz : ∀ a : Int, 0 ≤ a → xr a 0 = a := fun a ha => by simp [xr]; omega
      have hb := pAll
      unfold mid
      rw [if_pos h0]
      show _ = [xr (gb ptab (gb x 1).toNat) (pw 2 (i / 8 - 1) : Int), xr (gb ptab (gb x 2).toNat) 0, xr (gb ptab (gb x 3).toNat) 0, xr (gb ptab (gb x 0).toNat) 0]
      rw [hz _ (hb _).1, hz _ (hb _).1, hz _ (hb _).1]
    rw [e, n4_xor _ _ hr (wd4 _ _ _ _ (by omega) (by omega) (by omega) (by omega))]
    have e2 : n4 [(pw 2 (i / 8 - 1) : Int), 0, 0, 0] = pw 2 (i / 8 - 1) * 16777216 := by
      generalize pw 2 (i / 8 - 1) = q
      simp [n4, gb]
    rw [e2]
  · rw [if_neg h0]
    by_cases h4 : i % 8 = 4
    · rw [if_pos h4, wsum_n4 x h]
      have e : mid i x = looked ptab x := by
        unfold mid
        rw [if_neg h0, if_pos h4]
        conv => rhs; rw [four_gb x h.1]
        rfl
      rw [e]
    · rw [if_neg h4, mid, if_neg h0, if_neg h4]
/-- word i, as a number -/
def wn (key : List Int) (i : Nat) : Nat := n4 (wd key i)
theorem wn_lt (key : List Int) (hk : key.length = 32) (ha : AllB key) (i : Nat) : wn key i < 4294967296 := n4_lt _ (wd_wd key hk ha i)
theorem wn_eq (key : List Int) (hk : key.length = 32) (ha : AllB key) (i : Nat) (h : 8 ≤ i) :
    wn key i = wn key (i - 8) ^^^ (if i % 8 = 0 then wsum (wn key (i - 1) * 256 % 4294967296 + wn key (i - 1) / 16777216) 4 ^^^ pw 2 (i / 8 - 1) * 16777216 else if i % 8 = 4 then wsum (wn key (i - 1)) 4 else wn key (i - 1)) := by
  have h8 := wd_wd key hk ha (i - 8)
  have h1 := wd_wd key hk ha (i - 1)
  rw [wn, wd_eq, if_neg (by omega), n4_xor _ _ h8 (mid_wd i _ h1), n4_mid i _ h1]
  rfl
theorem wn_first (key : List Int) (i : Nat) (h : i < 8) : wn key i = n4 (cut4 key i) := by rw [wn, wd_eq, if_pos h]
end Go.Proofs.Ytijadglmbopboaa

/- What octet's Num answers: the number of the last eight bytes. No claim of its own. -/
namespace Go.Proofs.Ytijadglmbopboaa
open Go.RowKit

/-- the number of bytes, the greatest first, of sixty-four bits -/
def num : List Int → Int := fun xs => xs.foldl (fun n x => (n * 256) % 18446744073709551616 + x) 0
theorem num_snoc (xs : List Int) (x : Int) : num (xs ++ [x]) = (num xs * 256) % 18446744073709551616 + x := by simp [num]
/-- the last eight -/
def last8 (xs : List Int) : List Int := xs.drop (xs.length - 8)
theorem last8_len (xs : List Int) : (last8 xs).length = min xs.length 8 := by simp [last8]; omega
theorem gb_drop (xs : List Int) (d k : Nat) : gb (xs.drop d) k = gb xs (d + k) := by simp [gb, List.getD]
theorem take_snoc_gb (xs : List Int) (k : Nat) (h : k < xs.length) : xs.take (k + 1) = xs.take k ++ [gb xs k] := by
  rw [List.take_succ_eq_append_getElem h]; simp [gb, List.getD, h]
theorem num_bd (xs : List Int) (h : AllB xs) (k : Nat) (hk : k ≤ xs.length) : 0 ≤ num (xs.take k) ∧ num (xs.take k) ≤ 18446744073709551615 := by
  induction k with
  | zero => simp [num]
  | succ k ih =>
    rw [take_snoc_gb xs k (by omega), num_snoc]
    have := h k
    omega
theorem shl_or (n x : Int) (hx : 0 ≤ x ∧ x ≤ 255) : bits .or .u64 (IntKind.u64.wrap (n * 256)) (IntKind.u64.wrap x) = (n * 256) % 18446744073709551616 + x := by
  have hw : IntKind.u64.wrap x = x := by rw [IntKind.wrap_u64]; omega
  rw [hw, IntKind.wrap_u64]
  have h0 : 0 ≤ n * 256 % 18446744073709551616 := Int.emod_nonneg _ (by decide)
  have h1 : n * 256 % 18446744073709551616 < 18446744073709551616 := Int.emod_lt_of_pos _ (by decide)
  rw [u64_or _ _ h0 h1 hx.1 (by omega), nat_join 8 _ _ (by omega) (by omega)]
  omega

set_option maxHeartbeats 2000000 in
theorem num_any (v : Value) (xs : List Int) (w : World) (hb : Byt w v xs) :
    Calls Try.prog 59 #[v] w fun e w' => e = .returned (.int .u64 (num (last8 xs))) ∧ w' = w := by
  have HB := hb
  obtain ⟨ao, cap, rfl, h1, h2, -, -, -⟩ := hb
  have HBB : Hid (Byt w (.slice ao xs.length cap) xs) := HB
  clear HB
  generalize hys : last8 xs = ys
  have hs : ((clamp (xs.length : Int) 8 : Nat) : Int) = min (max (xs.length : Int) 0) 8 := by unfold clamp; omega
  generalize hsd : clamp (xs.length : Int) 8 = s at hs
  have HS : Hid (clamp (xs.length : Int) 8 = s) := hsd
  have hs1 : s ≤ 8 := by omega
  have hs2 : s ≤ xs.length := by omega
  have HL : Hid (xs.drop (xs.length - s) = ys) := by
    show _ = _
    rw [← hys]; unfold last8; congr 1; omega
  clear hsd hs hys
  go_enter Try.func59, Try.ntmps59
  go_wp2_with (first
    | (go_at_call 62; refine (within_any _ _ _ (by omega)).mono ?_; rintro e w' ⟨rfl, hw⟩; obtain rfl := hw.symm; rw [HS.out])
    | (refine cut_from _ rfl (.tmp 6) (.tmp 12) rfl _ xs _ (xs.length - s) rfl rfl (by omega) (by omega) HBB.out ?_; intro v' hv; rw [HL.out] at hv; obtain ⟨ao', cap', rfl, k1, k2, k3, -, k5⟩ := hv; have K3 : Hid (AllB ys) := k3; have K5 : Hid (0 < ys.length → ∃ b off, ao' = some ⟨b, off, none⟩ ∧ ∀ t, t < ys.length → w.cell? ⟨b, off + t, none⟩ = some (.int .u8 (gb ys t))) := k5; clear k3 k5))
  go_loop [3, 15] (fun n i => ∃ k : Nat, k ≤ ys.length ∧ i = .int .i64 k ∧ n = .int .u64 (num (ys.take k))) (fun _ i => ys.length - (intOf i).toNat)
  case atStart => exact ⟨0, Nat.zero_le _, rfl, rfl⟩
  case round =>
    obtain ⟨k, hk, rfl, rfl⟩ := hrel
    by_cases hlt : k < ys.length
    · obtain ⟨b, off, rfl, hca⟩ := K5.out (by omega)
      have c0 := hca k hlt
      clear hca
      have SN : Hid (num (ys.take (k + 1)) = num (ys.take k) * 256 % 18446744073709551616 + gb ys k) := by
        show _ = _
        rw [take_snoc_gb ys k hlt, num_snoc]
      go_wp2
      go_round
      case rel => exact ⟨k + 1, by omega, by go_num, by rw [SN.out, shl_or _ _ (K3.out k)]⟩
      case measure => simp [intOf]; omega
    · have hks : k = ys.length := by omega
      subst hks
      rw [List.take_length]
      go_wp2
      go_ret
      exact ⟨rfl, rfl⟩
end Go.Proofs.Ytijadglmbopboaa

/- What octet's Big, Little, NumLittle and the reference's answer. No claim of its own. -/
namespace Go.Proofs.Ytijadglmbopboaa
open Go.RowKit

/-- n, shifted by k bytes -/
def sh (n : Int) : Nat → Int
  | 0 => n
  | k + 1 => sh n k / 256
theorem sh_succ (n : Int) (k : Nat) : sh n (k + 1) = sh n k / 256 := rfl
theorem sh_bd (n : Int) (h : 0 ≤ n ∧ n ≤ 18446744073709551615) (k : Nat) : 0 ≤ sh n k ∧ sh n k ≤ 18446744073709551615 := by
  induction k with
  | zero => exact h
  | succ k ih => rw [sh_succ]; omega
/-- the k low bytes of n, the least first -/
def le (n : Int) (k : Nat) : List Int := (List.range k).map fun i => sh n i % 256
theorem le_snoc (n : Int) (k : Nat) : le n (k + 1) = le n k ++ [sh n k % 256] := by simp [le, List.range_succ]
theorem le_len (n : Int) (k : Nat) : (le n k).length = k := by simp [le]
theorem le_all (n : Int) (k : Nat) : AllB (le n k) := allB_mem fun x hx => by
  obtain ⟨i, _, rfl⟩ := List.mem_map.1 hx
  omega
theorem allB_reverse {xs : List Int} (h : AllB xs) : AllB xs.reverse := allB_mem fun x hx => by
  obtain ⟨i, hi, rfl⟩ := List.getElem_of_mem (List.mem_reverse.1 hx)
  have := h i
  simpa [gb, List.getD, hi] using this

def leAt (n : Int) (s k : Nat) : List Int := le n k ++ List.replicate (s - k) 0
theorem leAt_set (n : Int) (s k : Nat) (h : k < s) : (leAt n s k).set k (sh n k % 256) = leAt n s (k + 1) := by
  unfold leAt
  obtain ⟨d, hd⟩ : ∃ d, s - k = d + 1 := ⟨s - k - 1, by omega⟩
  have e : s - (k + 1) = d := by omega
  rw [hd, e, List.set_append_right _ _ (by simp [le_len]), le_snoc]
  simp [le_len, List.replicate_succ]
theorem leAt_end (n : Int) (s : Nat) : leAt n s s = le n s := by simp [leAt]

def beAt (n : Int) (s k : Nat) : List Int := List.replicate (s - k) 0 ++ (le n k).reverse
theorem beAt_set (n : Int) (s k : Nat) (h : k < s) : (beAt n s k).set (s - 1 - k) (sh n k % 256) = beAt n s (k + 1) := by
  unfold beAt
  obtain ⟨d, hd⟩ : ∃ d, s - k = d + 1 := ⟨s - k - 1, by omega⟩
  have e : s - (k + 1) = d := by omega
  have e' : s - 1 - k = d := by omega
  rw [hd, e, e', List.set_append_left _ _ (by simp), le_snoc, List.replicate_succ', List.set_append_right _ _ (by simp)]
  simp
theorem beAt_end (n : Int) (s : Nat) : beAt n s s = (le n s).reverse := by simp [beAt]

set_option maxHeartbeats 2000000 in
theorem big_any (n k0 : Int) (w : World) (hn : 0 ≤ n ∧ n ≤ 18446744073709551615) :
    Calls Try.prog 37 #[.int .u64 n, .int .i64 k0] w fun e w' => ∃ v, e = .returned v ∧ Byt w' v (le n (clamp k0 8)).reverse ∧ Below w.heap.size w w' := by
  have hs := clamp_le k0 8 (by omega)
  generalize hsd : clamp k0 8 = s at hs
  have HS : Hid (clamp k0 8 = s) := hsd
  have hn' : Hid (0 ≤ n ∧ n ≤ 18446744073709551615) := hn
  clear hsd hn
  go_enter Try.func37, Try.ntmps37
  go_wp2_with (first
    | (go_at_call 62; refine (within_any _ _ _ (by omega)).mono ?_; rintro e w' ⟨rfl, hw⟩; obtain rfl := hw.symm; rw [HS.out])
    | (at_make; refine make_law _ rfl _ _ rfl w.heap.size (Nat.le_refl _) _ s rfl rfl rfl (by omega) ?_; intro w1 hown hbel hlt))
  go_loopw [0, 13] (fun m i wr => ∃ k : Nat, k ≤ s ∧ i = .int .i64 k ∧ m = .int .u64 (sh n k) ∧ OwnN w.heap.size wr w.heap.size s (beAt n s k) ∧ Below w.heap.size w wr) (fun _ i _ => s - (intOf i).toNat)
  case atStart => exact ⟨0, Nat.zero_le _, rfl, rfl, by simpa [beAt, le] using hown, hbel⟩
  case round =>
    clear hown hbel
    obtain ⟨k, hk, rfl, rfl, hown, hbel⟩ := hrel
    by_cases hlt' : k < s
    · have c1 := hown.cell (show s - 1 - k < s by omega)
      have c2 := hown.free (s - 1 - k)
      have hown' := hown.set (s - 1 - k) (sh n k % 256)
      rw [beAt_set n s k hlt'] at hown'
      have bd := sh_bd n hn'.out k
      have e1 : IntKind.u8.wrap (sh n k) = sh n k % 256 := IntKind.wrap_u8' _
      have e2 : ((s : Int) - 1 - (k : Int)).toNat = s - 1 - k := by omega
      go_wp2
      go_roundw
      case rel => exact ⟨k + 1, by omega, by go_num, rfl, hown', hbel.setCell (Nat.le_refl _) _⟩
      case measure => simp [intOf]; omega
    · have : k = s := by omega
      subst this
      rw [beAt_end] at hown
      go_wp2
      go_ret
      exact ⟨_, rfl, hown.byt (allB_reverse (le_all _ _)), hbel⟩
end Go.Proofs.Ytijadglmbopboaa

/- What aes' stirred answers; four bytes and their number. No claim of its own. -/
namespace Go.Proofs.Ytijadglmbopboaa
open Go.RowKit

theorem num4 (x : List Int) (h : Wd x) : num (last8 x) = (n4 x : Int) := by
  have h0 := (wd_bd h 0)
  have h1 := (wd_bd h 1)
  have h2 := (wd_bd h 2)
  have h3 := (wd_bd h 3)
  have e : last8 x = x := by unfold last8; rw [h.1]; rfl
  rw [e]
  obtain ⟨a, b, c, d, rfl⟩ : ∃ a b c d, x = [a, b, c, d] := ⟨_, _, _, _, four_gb x h.1⟩
  simp only [gb, List.getD, List.getElem?_cons_zero, List.getElem?_cons_succ, Option.getD_some] at h0 h1 h2 h3
  simp only [num, n4, gb, List.foldl, List.getD, List.getElem?_cons_zero, List.getElem?_cons_succ, Option.getD_some]
  omega
theorem be4n (x : List Int) (h : Wd x) : (le (n4 x : Int) 4).reverse = x := by
  have h0 := (wd_bd h 0)
  have h1 := (wd_bd h 1)
  have h2 := (wd_bd h 2)
  have h3 := (wd_bd h 3)
  have e : (le (n4 x : Int) 4).reverse = [sh (n4 x) 3 % 256, sh (n4 x) 2 % 256, sh (n4 x) 1 % 256, sh (n4 x) 0 % 256] := rfl
  rw [e, four_gb x h.1]
  have e0 : sh (n4 x) 0 = (n4 x : Int) := rfl
  have e1 : sh (n4 x) 1 = (n4 x : Int) / 256 := rfl
  have e2 : sh (n4 x) 2 = (n4 x : Int) / 256 / 256 := rfl
  have e3 : sh (n4 x) 3 = (n4 x : Int) / 256 / 256 / 256 := rfl
  rw [← four_gb x h.1, e3, e2, e1, e0]
  unfold n4
  have f0 : ((((gb x 0).toNat * 16777216 + (gb x 1).toNat * 65536 + (gb x 2).toNat * 256 + (gb x 3).toNat : Nat) : Int) / 256 / 256 / 256) % 256 = gb x 0 := by omega
  have f1 : ((((gb x 0).toNat * 16777216 + (gb x 1).toNat * 65536 + (gb x 2).toNat * 256 + (gb x 3).toNat : Nat) : Int) / 256 / 256) % 256 = gb x 1 := by omega
  have f2 : ((((gb x 0).toNat * 16777216 + (gb x 1).toNat * 65536 + (gb x 2).toNat * 256 + (gb x 3).toNat : Nat) : Int) / 256) % 256 = gb x 2 := by omega
  have f3 : (((gb x 0).toNat * 16777216 + (gb x 1).toNat * 65536 + (gb x 2).toNat * 256 + (gb x 3).toNat : Nat) : Int) % 256 = gb x 3 := by omega
  rw [f0, f1, f2, f3]
  exact (four_gb x h.1).symm
/-- rotated to the left by 8 -/
def rl8 (x : Nat) : Nat := x * 256 % 4294967296 + x / 16777216
theorem rl8_lt (x : Nat) (h : x < 4294967296) : rl8 x < 4294967296 := by unfold rl8; omega
/-- what goes into word i of the word ahead of it -/
def stn (i x : Nat) : Nat := if i % 8 = 0 then wsum (rl8 x) 4 ^^^ pw 2 (i / 8 - 1) * 16777216 else if i % 8 = 4 then wsum x 4 else x

theorem rot8_eq (x : Nat) (h : x < 4294967296) : bits .or .u32 (IntKind.u32.wrap ((x : Int) * 256)) (IntKind.u32.wrap ((x : Int) / 16777216)) = (rl8 x : Int) := by
  have e1 : IntKind.u32.wrap ((x : Int) * 256) = ((2 ^ 8 * (x % 16777216) : Nat) : Int) := by rw [IntKind.wrap_u32]; omega
  have e2 : IntKind.u32.wrap ((x : Int) / 16777216) = ((x / 16777216 : Nat) : Int) := by rw [IntKind.wrap_u32]; omega
  rw [e1, e2, u32_or_nat _ _ (by omega) (by omega), ← Nat.two_pow_add_eq_or_of_lt (by omega) (x % 16777216)]
  unfold rl8
  omega

set_option maxHeartbeats 1000000 in
theorem rotl8_any (x : Nat) (w : World) (hx : x < 4294967296) :
    Calls Try.prog 71 #[.int .u32 x, .int .i64 8] w fun e w' => e = .returned (.int .u32 (rl8 x)) ∧ w' = w := by
  have h8 : bits .and .u64 8 31 = 8 := by decide +kernel
  have HX : Hid (x < 4294967296) := hx
  have w1 : IntKind.u32.wrap ((x : Int) / 16777216) = (x : Int) / 16777216 := by rw [IntKind.wrap_u32]; omega
  have HE := rot8_eq x hx
  rw [w1] at HE
  have HE' : Hid (bits .or .u32 (IntKind.u32.wrap ((x : Int) * 256)) ((x : Int) / 16777216) = (rl8 x : Int)) := HE
  clear hx HE
  go_enter Try.func71, Try.ntmps71
  go_wp2
  go_ret
  exact ⟨ret_int HE'.out, rfl⟩

theorem pw_bd (i : Nat) : pw 2 i < 256 := pw_lt 2 i
set_option maxHeartbeats 2000000 in
theorem stir_any (x i : Nat) (w : World) (hx : x < 4294967296) (hi : 8 ≤ i) (hi' : i < 60) :
    Calls Try.prog 61 #[.int .u32 x, .int .i64 i] w fun e w' => e = .returned (.int .u32 (stn i x)) ∧ Below w.heap.size w w' := by
  have q1 : IntKind.i64.wrap (i : Int) = i := by rw [IntKind.wrap_i64]; omega
  by_cases h0 : i % 8 = 0
  · have e0 : ((i : Int)).tmod 8 = 0 := by rw [Int.tmod_eq_emod_of_nonneg (by omega)]; omega
    obtain ⟨d, hd⟩ : ∃ d, d = i / 8 - 1 := ⟨_, rfl⟩
    have e1 : ((i : Int)).tdiv 8 = (d : Int) + 1 := by rw [Int.tdiv_eq_ediv_of_nonneg (by omega)]; omega
    have e2 : IntKind.i64.wrap ((d : Int) + 1) = (d : Int) + 1 := by rw [IntKind.wrap_i64]; omega
    have e3 : IntKind.i64.wrap ((d : Int) + 1 - 1) = (d : Int) := by rw [IntKind.wrap_i64]; omega
    have e6 : IntKind.i64.wrap (d : Int) = (d : Int) := by rw [IntKind.wrap_i64]; omega
    have P1 : Hid (∀ w0, Calls Try.prog 69 #[.int .u8 2, .int .i64 d] w0 fun e w' => e = .returned (.int .u8 (pw 2 d)) ∧ w' = w0) := fun w0 => by
      have := pow_any 2 (d : Int) w0 (by omega) (by omega)
      rwa [Int.toNat_natCast] at this
    have R1 : Hid (∀ w0, Calls Try.prog 71 #[.int .u32 x, .int .i64 8] w0 fun e w' => e = .returned (.int .u32 (rl8 x)) ∧ w' = w0) := fun w0 => rotl8_any x w0 hx
    have W1 : Hid (∀ w0, Calls Try.prog 70 #[.int .u32 (rl8 x)] w0 fun e w' => e = .returned (.int .u32 (wsum (rl8 x) 4)) ∧ Below w0.heap.size w0 w') := fun w0 => word_any (rl8 x) w0
    have HS : Hid ((stn i x : Int) = bits .xor .u32 (wsum (rl8 x) 4 : Int) (IntKind.u32.wrap (((pw 2 d : Nat) : Int) * 16777216))) := by
      show _ = _
      have hp := pw_lt 2 d
      have hw := wsum_lt (rl8 x) 4
      have e4 : IntKind.u32.wrap (((pw 2 d : Nat) : Int) * 16777216) = ((pw 2 d * 16777216 : Nat) : Int) := by rw [IntKind.wrap_u32]; omega
      rw [e4, u32_xor_nat _ _ (by omega) (by omega)]
      unfold stn
      rw [if_pos h0, ← hd]
    have hp8 : pw 2 d < 256 := pw_lt 2 d
    have e5 : IntKind.u32.wrap ((pw 2 d : Nat) : Int) = ((pw 2 d : Nat) : Int) := by rw [IntKind.wrap_u32]; omega
    generalize stn i x = z at *
    generalize wsum (rl8 x) 4 = ws at *
    generalize rl8 x = rx at *
    generalize pw 2 d = p at *
    clear hd hp8
    go_enter Try.func61, Try.ntmps61
    go_wp2_with (first
      | (go_at_call 70; refine (W1.out _).mono ?_; rintro e w1 ⟨rfl, B1⟩)
      | (go_at_call 71; refine (R1.out _).mono ?_; rintro e w1 ⟨rfl, hw⟩; obtain rfl := hw.symm)
      | (go_at_call 69; refine (P1.out _).mono ?_; rintro e w1 ⟨rfl, hw⟩; obtain rfl := hw.symm))
    go_ret
    exact ⟨ret_int HS.out.symm, B1⟩
  · by_cases h4 : i % 8 = 4
    · have e0 : ((i : Int)).tmod 8 = 4 := by rw [Int.tmod_eq_emod_of_nonneg (by omega)]; omega
      have W1 : Hid (∀ w0, Calls Try.prog 70 #[.int .u32 x] w0 fun e w' => e = .returned (.int .u32 (wsum x 4)) ∧ Below w0.heap.size w0 w') := fun w0 => word_any x w0
      have HS : Hid (stn i x = wsum x 4) := by show _ = _; unfold stn; rw [if_neg h0, if_pos h4]
      rw [HS.out]
      generalize wsum x 4 = ws at *
      go_enter Try.func61, Try.ntmps61
      go_wp2_with (go_at_call 70; refine (W1.out _).mono ?_; rintro e w1 ⟨rfl, B1⟩)
      go_ret
      exact ⟨rfl, B1⟩
    · obtain ⟨r, hr⟩ : ∃ r, r = i % 8 := ⟨_, rfl⟩
      have e0 : ((i : Int)).tmod 8 = (r : Int) := by rw [Int.tmod_eq_emod_of_nonneg (by omega)]; omega
      have r0 : ¬ ((r : Int) = 0) := by omega
      have r4 : ¬ ((r : Int) = 4) := by omega
      have r5 : IntKind.i64.wrap (r : Int) = r := by rw [IntKind.wrap_i64]; omega
      have HS : stn i x = x := by unfold stn; rw [if_neg h0, if_neg h4]
      rw [HS]
      clear hr h0 h4 HS
      go_enter Try.func61, Try.ntmps61
      go_wp2
      go_ret
      exact ⟨rfl, Below.refl _ _⟩
end Go.Proofs.Ytijadglmbopboaa

/- A region that draws its order and only reads and calls, in any class of worlds: one law a kind of operation. No claim of its own. -/
namespace Go.Proofs.Ytijadglmbopboaa
open Go.RowKit

theorem region_quietC {C : World → Prop} {id : Nat} {Q : Exit → Act → World → Prop} {a : Act} {w : World} {l : List Oper} (hm : Try.prog.follows .mixedOrders = true) (hB : Region.lexB .any l.toArray = true) (hC : C { w with drawn := w.drawn + 1 })
    (h : wpQuiet Try.prog l.toArray C (fun a' => ∀ w', C w' → Q .normal a' w') l a) : (Code.region id l.toArray true).wp Try.prog Q a w :=
  wp_region_quiet hm hB hC (by simpa using h)

theorem run_load1 (w : World) (b p : Nat) (t : TypeId) (k : IntKind) (n : Int) (hu : Try.prog.underlying t = some (.int k)) (h : w.cell? ⟨b, p, none⟩ = some (.int k n)) : (loadVar t ⟨b, p, none⟩).run Try.prog w = .ok (.int k n) w := by
  simp [loadVar, isAgg, run_underlying hu, h]

section
variable {ops : Array Oper} {C : World → Prop} {K : Act → Prop} {o : Oper} {a : Act}
/-- the address of a slice's element -/
theorem q_idx (hw : Region.wanted o (yielded ops a.tmps) = true) (d : Option Tmp) (hd : o.dst = d) (x y : Operand) (hop : o.op = Op.indexAddr 22 x y) (b off n cap i : Nat) (hx : a.eval x = .slice (some ⟨b, off, none⟩) n cap) (hy : a.eval y = .int .i64 i) (hi : i < n)
    (hK : K (a.put d (.pointer (some ⟨b, off + i, none⟩)))) :
    if Region.wanted o (yielded ops a.tmps) = true then o.quiet Try.prog a C K else K (a.put o.dst undef) := by
  refine q_val hw d hd _ (fun w _ => ?_) hK
  have hr : (Instr.indexAt 22 (.slice (some ⟨b, off, none⟩) n cap) (.int .i64 (i : Int))).run Try.prog w = .ok (.pointer (some ⟨b, off + i, none⟩)) w := by
    rw [run_indexAt_slice _ _ _ _ _ _ _ und_bytes, if_pos (by omega), elem_bytes, run_size_u8]
    simp [Result.andThen, Addr.add]
  unfold execOp
  simp only [hop, hx, hy, Sem.run_bind, Sem.run_pure, Result.andThen_ok, hr]
/-- a number is read -/
theorem q_get (hw : Region.wanted o (yielded ops a.tmps) = true) (d : Option Tmp) (hd : o.dst = d) (x : Operand) (t : TypeId) (hop : o.op = Op.load t x) (k : IntKind) (n : Int) (b p : Nat) (hx : a.eval x = .pointer (some ⟨b, p, none⟩)) (hu : Try.prog.underlying t = some (.int k)) (h : ∀ w, C w → w.cell? ⟨b, p, none⟩ = some (.int k n))
    (hK : K (a.put d (.int k n))) :
    if Region.wanted o (yielded ops a.tmps) = true then o.quiet Try.prog a C K else K (a.put o.dst undef) := by
  refine q_val hw d hd _ (fun w hC => ?_) hK
  unfold execOp
  simp only [hop, hx, Instr.loadAt, Instr.sureAddr, Sem.run_bind, Sem.run_pure, Result.andThen_ok, run_load1 w b p t k n hu (h w hC)]
/-- two numbers that are the same are not unlike -/
theorem q_neq (hw : Region.wanted o (yielded ops a.tmps) = true) (d : Option Tmp) (hd : o.dst = d) (x y : Operand) (t t' : TypeId) (hop : o.op = Op.binOp .neq t x y t') (k : IntKind) (n : Int) (hx : a.eval x = .int k n) (hy : a.eval y = .int k n)
    (hK : K (a.put d (.bool false))) :
    if Region.wanted o (yielded ops a.tmps) = true then o.quiet Try.prog a C K else K (a.put o.dst undef) := by
  refine q_val hw d hd _ (fun w _ => ?_) hK
  unfold execOp
  simp only [hop, hx, hy]
  go_simp
end
end Go.Proofs.Ytijadglmbopboaa

/- A region that draws its order, whose first operations only read and whose last ones write: one walk of the first, in the order of the text, then the last. No claim of its own. -/
namespace Go.Proofs.Ytijadglmbopboaa
open Go.RowKit

/-- does operation k wait for operation j -/
def waits (md : Region.Mode) (ops : Array Oper) (k j : Nat) : Bool := match ops[k]? with
  | some o => o.after.any fun e => Region.binds md e && e.on == j
  | none => false
/-- the operations from k to m only wait for earlier ones, have no guard, and operation m waits for them all; those behind m wait for m -/
def thenB (md : Region.Mode) (ops : Array Oper) (k m n : Nat) : Bool :=
  (ops.size == m + n) && Region.noSelect (ops.extract 0 m) && Region.lexFrom md (ops.extract 0 m) (m - k) k (Array.replicate k true ++ Array.replicate (m - k) false)
  && (List.range m).all (fun i => match ops[i]? with | some o => o.guard.isNone && o.after.all (fun e => !Region.binds md e || decide (e.on < i)) | none => false)
  && (List.range m).all (fun j => decide (j < k) || (List.range (m + 1)).any (fun i => decide (j < i) && waits md ops i j))
  && (List.range (m + n)).all (fun i => decide (i ≤ m) || waits md ops i m) && decide (k ≤ m)

theorem waits_spec {md : Region.Mode} {ops : Array Oper} {k j : Nat} (h : waits md ops k j = true) : ∃ o, ops[k]? = some o ∧ ∃ e ∈ o.after, Region.binds md e = true ∧ e.on = j := by
  unfold waits at h
  cases ho : ops[k]? with
  | none => simp [ho] at h
  | some o =>
    simp only [ho] at h
    obtain ⟨e, he, h2⟩ := Array.any_eq_true'.1 h
    simp only [Bool.and_eq_true, beq_iff_eq] at h2
    exact ⟨o, rfl, e, he, h2.1, h2.2⟩

section
variable {P : Program} {ops : Array Oper} {md : Region.Mode} {C : World → Prop} {Q : Exit → Act → World → Prop}

theorem getD_lo {L : Array Bool} {n j : Nat} (b : Bool) (hj : j < L.size) : (L ++ Array.replicate n false).getD j b = L.getD j b := by
  simp [Array.getElem?_append, hj]
theorem getD_hi {L : Array Bool} {n j : Nat} (b : Bool) (hj : L.size ≤ j) (hn : j < L.size + n) : (L ++ Array.replicate n false).getD j b = false := by
  simp [Array.getElem?_append, Nat.not_lt.2 hj, show j - L.size < n by omega]
theorem getD_any {L : Array Bool} {j : Nat} (b c : Bool) (hj : j < L.size) : L.getD j b = L.getD j c := by simp [hj]
theorem all_true {L : Array Bool} {m : Nat} (hs : L.size = m) (h : ∀ j, j < m → L.getD j true = true) : L = Array.replicate m true := by
  apply Array.ext
  · simp [hs]
  · intro i h1 h2
    have := h i (by omega)
    simpa [h1] using this
theorem set_lo {L : Array Bool} {n i : Nat} (hi : i < L.size) : (L ++ Array.replicate n false).setIfInBounds i true = L.setIfInBounds i true ++ Array.replicate n false := by
  apply Array.ext_getElem?
  intro j
  rw [Array.getElem?_setIfInBounds, Array.getElem?_append, Array.getElem?_append, Array.getElem?_setIfInBounds, Array.size_setIfInBounds, Array.size_append]
  by_cases e : i = j
  · subst e; simp [hi]
    omega
  · simp [e]

theorem wpAny_pre {m n k : Nat} (hsz : ops.size = m + n)
    (hpre : ∀ i, i < m → ∃ o, ops[i]? = some o ∧ o.guard = none ∧ ∀ e ∈ o.after, Region.binds md e = true → e.on < i)
    (hall : ∀ j, k ≤ j → j < m → ∃ i, j < i ∧ i ≤ m ∧ waits md ops i j = true)
    (hbeh : ∀ i, m < i → i < m + n → waits md ops i m = true) (Q' : Act → Prop)
    (hQ : ∀ a, Q' a → ∀ f w, C w → wpAny P md ops Q (f + n) (Array.replicate m true ++ Array.replicate n false) a w) :
    ∀ (fuel : Nat) (L : Array Bool) (a : Act) (w : World), L.size = m → (∀ j, j < k → j < m → L.getD j true = true) →
      (∀ i o, i < m → ops[i]? = some o → L.getD i true = true → ∀ e ∈ o.after, Region.binds md e = true → L.getD e.on false = true) →
      C w → wpAnyQ P md (ops.extract 0 m) C Q' fuel L a → wpAny P md ops Q (fuel + n) (L ++ Array.replicate n false) a w := by
  have hex : ∀ i, i < m → (ops.extract 0 m)[i]? = ops[i]? := fun i hi => by
    rw [Array.getElem?_extract]; simp
    intro h; omega
  have hpr : ∀ (L : Array Bool) (i : Nat), L.size = m → i < m → (i ∈ Region.ready md (ops.extract 0 m) L ↔ i ∈ Region.ready md ops (L ++ Array.replicate n false)) := by
    intro L i hs hi
    obtain ⟨o, ho, hg, hd⟩ := hpre i hi
    rw [mem_ready, mem_ready, hex i hi, ho, getD_lo _ (by omega)]
    constructor
    · rintro ⟨h1, o', e', h2⟩
      cases e'
      exact ⟨h1, o, rfl, fun e he hb => by rw [getD_lo _ (by have := hd e he hb; omega)]; exact h2 e he hb⟩
    · rintro ⟨h1, o', e', h2⟩
      cases e'
      refine ⟨h1, o, rfl, fun e he hb => ?_⟩
      have := h2 e he hb
      rwa [getD_lo _ (by have := hd e he hb; omega)] at this
  -- an operation that may come up while one of the first has not yet come up is one of the first
  have hlow : ∀ (L : Array Bool) (i : Nat), L.size = m → (∀ j, j < k → j < m → L.getD j true = true) → (∀ i o, i < m → ops[i]? = some o → L.getD i true = true → ∀ e ∈ o.after, Region.binds md e = true → L.getD e.on false = true) →
      (∃ j, j < m ∧ L.getD j true = false) → i ∈ Region.ready md ops (L ++ Array.replicate n false) → i < m := by
    intro L i hs hk hcl ⟨j, hj, hjf⟩ hi
    rcases Nat.lt_or_ge i m with h | h
    · exact h
    exfalso
    obtain ⟨hun, o, ho, hd⟩ := mem_ready.1 hi
    have hio : i < m + n := by rw [← hsz]; exact (Array.getElem?_eq_some_iff.1 ho).1
    have him : i = m := by
      rcases Nat.lt_or_ge m i with h' | h'
      · obtain ⟨o', ho', e, he, hb, hon⟩ := waits_spec (hbeh i h' hio)
        rw [ho] at ho'; cases ho'
        have := hd e he hb
        rw [hon, getD_hi _ (by omega) (by omega)] at this
        cases this
      · omega
    subst him
    have hdown : ∀ d j, i - 1 - d = j → j < i → L.getD j true = true := by
      intro d
      induction d using Nat.strongRecOn with
      | ind d ih =>
        intro j hdj hji
        rcases Nat.lt_or_ge j k with hjk | hjk
        · exact hk j hjk hji
        obtain ⟨c, hc1, hc2, hw⟩ := hall j hjk hji
        obtain ⟨o', ho', e, he, hb, hon⟩ := waits_spec hw
        rcases Nat.lt_or_ge c i with hci | hci
        · have h1 := ih (i - 1 - c) (by omega) c (by omega) hci
          have h2 := hcl c o' hci ho' h1 e he hb
          rw [hon] at h2
          rw [getD_any true false (by omega)]; exact h2
        · have : c = i := by omega
          subst this
          rw [ho] at ho'; cases ho'
          have h2 := hd e he hb
          rw [hon, getD_lo _ (by omega)] at h2
          rw [getD_any true false (by omega)]; exact h2
    have := hdown (i - 1 - j) j (by omega) hj
    rw [this] at hjf; cases hjf
  -- one of the first that has not come up yet: one of them may come up
  have hsome : ∀ (L : Array Bool), L.size = m → (∃ j, j < m ∧ L.getD j true = false) → ∃ i, i < m ∧ i ∈ Region.ready md (ops.extract 0 m) L := by
    intro L hs ⟨j, hj, hjf⟩
    induction j using Nat.strongRecOn with
    | ind j ih =>
      obtain ⟨o, ho, hg, hd⟩ := hpre j hj
      by_cases hq : ∀ e ∈ o.after, Region.binds md e = true → L.getD e.on false = true
      · exact ⟨j, hj, mem_ready.2 ⟨hjf, o, by rw [hex j hj]; exact ho, hq⟩⟩
      · simp only [Classical.not_forall] at hq
        obtain ⟨e, he, hb, hn⟩ := hq
        have hlt := hd e he hb
        refine ih e.on hlt (by omega) ?_
        rw [getD_any true false (by omega)]
        simpa using hn
  intro fuel
  induction fuel with
  | zero =>
    intro L a w hs hk hcl hC h
    have hal : ∀ j, j < m → L.getD j true = true := by
      intro j hj
      cases hv : L.getD j true with
      | true => rfl
      | false =>
        obtain ⟨i, _, hi⟩ := hsome L hs ⟨j, hj, hv⟩
        rw [h.1] at hi; cases hi
    rw [all_true hs hal]
    exact hQ a h.2 0 w hC
  | succ fuel ih =>
    intro L a w hs hk hcl hC h
    by_cases hal : ∀ j, j < m → L.getD j true = true
    · rw [all_true hs hal]
      refine hQ a (h.1 ?_) (fuel + 1) w hC
      apply List.eq_nil_iff_forall_not_mem.2
      intro i hi
      obtain ⟨hun, o, ho, _⟩ := mem_ready.1 hi
      have him : i < m := by
        have := (Array.getElem?_eq_some_iff.1 ho).1
        simp at this; omega
      rw [hal i him] at hun; cases hun
    · have hex2 : ∃ j, j < m ∧ L.getD j true = false := by
        simp only [Classical.not_forall] at hal
        obtain ⟨j, hj, hn⟩ := hal
        exact ⟨j, hj, by simpa using hn⟩
      rw [Nat.add_right_comm]
      refine ⟨fun h0 => ?_, fun i hi => ?_⟩
      · obtain ⟨i, him, hi⟩ := hsome L hs hex2
        rw [hpr L i hs him, h0] at hi; cases hi
      · have him := hlow L i hs hk hcl hex2 hi
        have hip := (hpr L i hs him).2 hi
        have hq := h.2 i hip
        obtain ⟨o, ho, hg, hd⟩ := hpre i him
        obtain ⟨hun, o', ho', hdd⟩ := mem_ready.1 hi
        rw [ho] at ho'; cases ho'
        unfold qOp at hq
        unfold wpOp
        rw [hex i him, ho] at hq
        rw [ho]
        have hw1 : ∀ y, Region.wanted o y = true := fun y => by simp [Region.wanted, hg]
        simp only [hw1, if_true] at hq ⊢
        refine .inl (Oper.wp_of_quiet hC (fun a' w' hw' hK => ?_) hq)
        rw [set_lo (by omega)]
        refine ih _ a' w' (by simpa using hs) (fun j hj hjm => ?_) (fun c oc hc hoc hct e he hb => ?_) hw' hK
        · by_cases hij : i = j
          · subst hij; simp [hs, him]
          · rw [getD_set_ne true hij]; exact hk j hj hjm
        · by_cases hie : i = e.on
          · rw [← hie]; simp [hs, him]
          · rw [getD_set_ne false hie]
            by_cases hic : i = c
            · subst hic
              rw [ho] at hoc; cases hoc
              have := hdd e he hb
              rwa [getD_lo _ (by have := hd e he hb; omega)] at this
            · rw [getD_set_ne true hic] at hct
              exact hcl c oc hc hoc hct e he hb

/-- **the first m operations (the first k of them have come up) by one walk in the order of the text, then the others** -/
theorem wpAny_quiet_then (k m n : Nat) {fuel : Nat} {listed : Array Bool} {a : Act} {w : World} (l : List Oper) (hB : thenB md ops k m n = true) (hl : l = (ops.toList.take m).drop k) (hf : fuel = (m - k) + n)
    (hL : listed = (Array.replicate k true ++ Array.replicate (m - k) false) ++ Array.replicate n false) (hC : C w)
    (h : wpQuiet P (ops.extract 0 m) C (fun a' => ∀ f w', C w' → wpAny P md ops Q (f + n) (Array.replicate m true ++ Array.replicate n false) a' w') l a) : wpAny P md ops Q fuel listed a w := by
  simp only [thenB, Bool.and_eq_true, beq_iff_eq, decide_eq_true_eq] at hB
  obtain ⟨⟨⟨⟨⟨⟨hsz, hns⟩, hlex⟩, hpre⟩, hall⟩, hbeh⟩, hkm⟩ := hB
  subst hf hL
  have hll : l.length = m - k := by rw [hl]; simp; omega
  refine wpAny_pre (k := k) hsz (fun i hi => ?_) (fun j hj hjm => ?_) (fun i hi hin => ?_) _ (fun a h => h) (m - k) _ a w (by simp; omega) (fun j hj hjm => ?_) (fun i o hi ho ht e he hb => ?_) hC ?_
  · have := List.all_eq_true.1 hpre i (List.mem_range.2 hi)
    cases ho : ops[i]? with
    | none => simp [ho] at this
    | some o =>
      simp only [ho, Bool.and_eq_true] at this
      refine ⟨o, rfl, by simpa using this.1, fun e he hb => ?_⟩
      have h2 := Array.all_eq_true_iff_forall_mem.1 this.2 e he
      simpa [hb] using h2
  · have := List.all_eq_true.1 hall j (List.mem_range.2 hjm)
    simp only [Bool.or_eq_true, decide_eq_true_eq] at this
    rcases this with h | h
    · omega
    obtain ⟨i, hi, h2⟩ := List.any_eq_true.1 h
    simp only [Bool.and_eq_true, decide_eq_true_eq] at h2
    exact ⟨i, h2.1, by have := List.mem_range.1 hi; omega, h2.2⟩
  · have := List.all_eq_true.1 hbeh i (List.mem_range.2 hin)
    simp only [Bool.or_eq_true, decide_eq_true_eq] at this
    rcases this with h | h
    · omega
    · exact h
  · simp [Array.getElem?_append, hj]
  · have hik : i < k := by
      rcases Nat.lt_or_ge i k with h | h
      · exact h
      · simp [Array.getElem?_append, Nat.not_lt.2 h, show i - k < m - k by omega] at ht
    have := List.all_eq_true.1 hpre i (List.mem_range.2 hi)
    simp only [ho, Bool.and_eq_true] at this
    have h2 := Array.all_eq_true_iff_forall_mem.1 this.2 e he
    have h3 : e.on < i := by simpa [hb] using h2
    simp [Array.getElem?_append, show e.on < k by omega]
  · have := wpAnyQ_lex (P := P) (C := C) (md := md) hns l k (Array.replicate k true ++ Array.replicate (m - k) false) a (fun j => ?_) (by rw [hll]; exact hlex) h
    · rwa [hll] at this
    · rw [hl, List.getElem?_drop, Array.getElem?_extract]
      by_cases hj : k + j < m
      · rw [List.getElem?_take_of_lt hj]; simp
        intro h; omega
      · rw [List.getElem?_take_eq_none (by omega)]; simp; omega
end
end Go.Proofs.Ytijadglmbopboaa

/- One law a kind of operation, in a region that draws its order: a call, a new array, a copy, a store; and, in a class of worlds, the address of an array's element, a slice of an array. No claim of its own. -/
namespace Go.Proofs.Ytijadglmbopboaa
open Go.RowKit

theorem OwnN.arG {B : Nat} {w : World} {g n : Nat} {xs : List Int} (h : OwnN B w g n xs) : Ar w g 0 .u8 xs := Ar.mk fun i hi => by
  have hl := h.1
  rw [Nat.zero_add]
  exact ⟨h.cell (by omega), h.free i⟩
/-- bytes in a row, as a slice of just them -/
theorem Ar.bytG {w : World} {b p : Nat} {xs : List Int} (h : Ar w b p .u8 xs) (ha : AllB xs) (n c : Nat) (hn : xs.length = n) (hc : n ≤ c) (hm : c ≤ 9223372036854775807) : Byt w (.slice (some ⟨b, p, none⟩) n c) xs :=
  ⟨some ⟨b, p, none⟩, c, by rw [hn], by omega, hm, ha, (by intro h; cases h), fun _ => ⟨b, p, rfl, fun t ht => h.cell t ht⟩⟩
/-- a part of a row -/
theorem Ar.subG {w : World} {b o : Nat} {k : IntKind} {xs : List Int} (h : Ar w b o k xs) (s : Nat) (ys : List Int) (hl : s + ys.length ≤ xs.length) (hg : ∀ t, t < ys.length → gb ys t = gb xs (s + t)) : Ar w b (o + s) k ys := Ar.mk fun i hi => by
  rw [Nat.add_assoc, hg i hi]
  exact ⟨h.cell (s + i) (by omega), h.free (s + i) (by omega)⟩

theorem run_copyG (w : World) (b p dl dc : Nat) (ao : Option Addr) (ys : List Int) (cap : Nat) (ty : TypeId) (h5 : 0 < ys.length → ∃ b off, ao = some ⟨b, off, none⟩ ∧ ∀ t, t < ys.length → w.cell? ⟨b, off + t, none⟩ = some (.int .u8 (gb ys t))) (ht : w.there b p (min ys.length dl)) :
    (Builtin.copy_ #[22, 22] ty #[.slice (some ⟨b, p, none⟩) dl dc, .slice ao ys.length cap]).run Try.prog w = .ok (.int .i64 ((min ys.length dl : Nat) : Int)) (w.setCells b p ((ys.take dl).map (Value.int .u8))) := by
  obtain ⟨i0, hi, hz0, hz1, hz2⟩ := info_parts info_u8
  have hs : (Try.prog.info? 5).map (·.size) = some 1 := by rw [hi]; simp [hz1]
  by_cases hz : min ys.length dl = 0
  · have := run_copy_none (P := Try.prog) w 22 22 ty 5 (some ⟨b, p, none⟩) ao dl dc ys.length cap Try.underlying22 hs hz
    rw [this, hz]
    have : ys.take dl = [] := by
      rcases Nat.eq_zero_or_pos dl with h | h
      · subst h; simp
      · have : ys = [] := List.eq_nil_of_length_eq_zero (by omega)
        subst this; simp
    rw [this]; rfl
  · obtain ⟨b', off, rfl, hc⟩ := h5 (by omega)
    have hlen : ((ys.take dl).map (Value.int .u8)).length = min ys.length dl := by simp; omega
    have := run_copy_cells (P := Try.prog) w 22 22 ty 5 b p dl dc ⟨b', off, none⟩ ys.length cap ((ys.take dl).map (Value.int .u8)) Try.underlying22 hs hlen (fun j u hj => by
      have hj' : j < min ys.length dl := by rw [← hlen]; exact (List.getElem?_eq_some_iff.1 hj).1
      rw [Addr.add_mid, hc j (by omega), ← hj]
      simp [gb, List.getD, show j < dl by omega, show j < ys.length by omega]) (fun j hj => (ht j (by rw [← hlen]; exact hj)).1) (fun j hj => (ht j (by rw [← hlen]; exact hj)).2) (fun u hu => by
      simp only [List.mem_map] at hu
      obtain ⟨x, _, rfl⟩ := hu
      rfl)
    rw [this, hlen]; rfl

/-- as many cells are there -/
theorem thereG {w : World} {b : Nat} {k : IntKind} {xs : List Int} (h : Ar w b 0 k xs) (p n : Nat) (hl : p + n ≤ xs.length) : w.there b p n := fun j hj => by
  have := h.2 (p + j) (by omega)
  rwa [Nat.zero_add] at this
theorem Ar.layG {w : World} {b : Nat} {xs : List Int} (h : Ar w b 0 .u8 xs) (p : Nat) (ys : List Int) (hl : p + ys.length ≤ xs.length) : Ar (w.setCells b p (ys.map (Value.int .u8))) b 0 .u8 (laid xs p ys) := by
  have := h.lay p ys hl
  rwa [Nat.zero_add] at this

section
variable {ops : Array Oper} {o : Oper} {a : Act} {Q : Exit → Act → World → Prop} {K : Act → World → Prop} {E : Prop}
/-- 'copy(d, s)' of as many bytes as d has room for, into the middle of an array; the world gets a name -/
theorem step_copyG (w : World) (hg : o.guard = none) (d : Option Tmp) (hd : o.dst = d) (x y : Operand) (hop : o.op = .call { callee := .builtin .copy, args := #[x, y], argTypes := #[22, 22] })
    (b p n dc : Nat) (v : Value) (xs ys : List Int) (hx : a.eval x = .slice (some ⟨b, p, none⟩) n dc) (hy : a.eval y = v) (hb : Byt w v ys) (hA : Ar w b 0 .u8 xs) (hn : ys.length = n) (hl : p + n ≤ xs.length)
    (hK : ∀ w', Ar w' b 0 .u8 (laid xs p ys) → Below b w w' → K (a.put d (.int .i64 (n : Int))) w') :
    if Region.wanted o (yielded ops a.tmps) = true then Oper.wp Try.prog o a w K Q else E := by
  have hw : Region.wanted o (yielded ops a.tmps) = true := by simp [Region.wanted, hg]
  rw [if_pos hw]
  subst hd
  obtain ⟨ao, cap, rfl, h1, h2, h3, h4, h5⟩ := hb
  have e : min ys.length n = n := by omega
  have hrun := run_copyG w b p n dc ao ys cap o.type h5 (by rw [e]; exact thereG hA p n hl)
  rw [e, List.take_of_length_le (by omega)] at hrun
  unfold Oper.wp execOp
  simp only [hop, resolve, invoke, builtin, Sem.run_bind, Sem.run_pure, Result.andThen_ok, List.map_toArray, List.map_cons, List.map_nil, hx, hy, hrun]
  exact hK _ (hA.layG p ys (by omega)) (below_cells _ (Nat.le_refl _) _ _ (Below.refl _ _))
/-- a call -/
theorem step_callG (w : World) (hg : o.guard = none) (d : Option Tmp) (hd : o.dst = d) (f : FuncId) (args : Array Operand) (ats : Array TypeId) (hop : o.op = .call { callee := .value (.func f), args := args, argTypes := ats })
    (hcf : ∀ (q : Array Value) (w : World), (callFunc f q).run Try.prog w = .ok (.enter f q) w) (vs : Array Value) (hx : args.map a.eval = vs) (R : Value → World → Prop) (hc : Calls Try.prog f vs w fun e w' => ∃ v, e = .returned v ∧ R v w') (hK : ∀ v w', R v w' → K (a.put d v) w') : if Region.wanted o (yielded ops a.tmps) = true then Oper.wp Try.prog o a w K Q else E := by
  have hw : Region.wanted o (yielded ops a.tmps) = true := by simp [Region.wanted, hg]
  rw [if_pos hw]
  subst hd
  subst hx
  unfold Oper.wp
  simp only [execOp, hop]
  go_simp
  refine hc.mono ?_
  rintro e w' ⟨v, rfl, hr⟩
  exact hK v w' hr
/-- a call that hands back one value -/
theorem step_callD (w : World) (hg : o.guard = none) (d : Option Tmp) (hd : o.dst = d) (f : FuncId) (args : Array Operand) (ats : Array TypeId) (hop : o.op = .call { callee := .value (.func f), args := args, argTypes := ats })
    (hcf : ∀ (q : Array Value) (w : World), (callFunc f q).run Try.prog w = .ok (.enter f q) w) (vs : Array Value) (hx : args.map a.eval = vs) (v : Value) (R : World → Prop) (hc : Calls Try.prog f vs w fun e w' => e = .returned v ∧ R w') (hK : ∀ w', R w' → K (a.put d v) w') : if Region.wanted o (yielded ops a.tmps) = true then Oper.wp Try.prog o a w K Q else E := by
  have hw : Region.wanted o (yielded ops a.tmps) = true := by simp [Region.wanted, hg]
  rw [if_pos hw]
  subst hd
  subst hx
  unfold Oper.wp
  simp only [execOp, hop]
  go_simp
  refine hc.mono ?_
  rintro e w' ⟨rfl, hr⟩
  exact hK w' hr
/-- a new array of noughts -/
theorem step_newG (w : World) (hg : o.guard = none) (d : Option Tmp) (hd : o.dst = d) (t : TypeId) (hop : o.op = Op.alloc t) (k : IntKind) (xs : List Int) (hz : (Try.prog.info? t).map (fun i => (i.zero, i.size)) = some (some (.agg (ints k xs)), xs.length))
    (hK : ∀ w', Ar w' w.heap.size 0 k xs → Below w.heap.size w w' → w.heap.size < w'.heap.size → K (a.put d (.pointer (some ⟨w.heap.size, 0, none⟩))) w') :
    if Region.wanted o (yielded ops a.tmps) = true then Oper.wp Try.prog o a w K Q else E := by
  have hw : Region.wanted o (yielded ops a.tmps) = true := by simp [Region.wanted, hg]
  rw [if_pos hw]
  subst hd
  have hz' := (zero_of_info hz).1
  unfold Oper.wp
  simp [execOp, hop, Instr.alloc, hz', newVar, newRow, Value.cells, Result.andThen]
  exact hK _ (Ar.new w t k xs) ((Below.refl _ _).alloc (Nat.le_refl _) _) (by simp)
/-- a whole array is written -/
theorem step_storeG (w : World) (hg : o.guard = none) (d : Option Tmp) (hd : o.dst = d) (x y : Operand) (t : TypeId) (hop : o.op = Op.store t x y) (k : IntKind) (xs ys : List Int) (b : Nat) (hx : a.eval x = .pointer (some ⟨b, 0, none⟩)) (hy : a.eval y = .agg (ints k ys))
    (hA : Ar w b 0 k xs) (n : Nat) (hi : (Try.prog.info? t).map (·.size) = some n) (hl : xs.length = n) (hn : ys.length = n)
    (hK : ∀ w', Ar w' b 0 k ys → Below b w w' → K (a.put d undef) w') :
    if Region.wanted o (yielded ops a.tmps) = true then Oper.wp Try.prog o a w K Q else E := by
  have hw : Region.wanted o (yielded ops a.tmps) = true := by simp [Region.wanted, hg]
  rw [if_pos hw]
  subst hd
  have ht : w.there b 0 ys.length := by rw [hn, ← hl]; exact hA.2
  refine wp_store_mid t x y hop b 0 (ints k ys) hx hy (by rw [ints_size]; exact ht) (by rw [hi, ints_size, hn]) (ints_one k ys) ?_
  rw [ints_toList]
  exact hK _ (Ar.whole ht) (below_cells _ (Nat.le_refl _) _ _ (Below.refl _ _))
/-- a value is laid in a slot -/
theorem step_movG (w : World) (hg : o.guard = none) (d : Option Tmp) (hd : o.dst = d) (x : Operand) (hop : o.op = Op.assign x) (v : Value) (hx : a.eval x = v)
    (hK : K (a.put d v) w) : if Region.wanted o (yielded ops a.tmps) = true then Oper.wp Try.prog o a w K Q else E := by
  have hw : Region.wanted o (yielded ops a.tmps) = true := by simp [Region.wanted, hg]
  rw [if_pos hw]
  subst hd
  unfold Oper.wp execOp
  simp only [hop, hx, Sem.run_pure]
  exact hK
end

/-- an operation that is taken first, its slot written out -/
theorem take_lawG {ops : Array Oper} {Q : Exit → Act → World → Prop} (i : Nat) {oi : Oper} (d : Option Tmp) (v : Value) {fuel : Nat} {listed : Array Bool} {a : Act} {w : World} (hi : ops[i]? = some oi) (hd : oi.dst = d)
    (hs : Region.noSelect ops = true) (hf : Region.free .any ops listed i = true) (hr : (Region.ready .any ops listed).contains i = true)
    (hQ : ∀ c a w, Q (.panic c) (a.put d v) w → Q (.panic c) a w) (hy : Yields Try.prog ops oi v a)
    (h : wpAny Try.prog .any ops Q fuel (listed.setIfInBounds i true) (a.put d v) w) : wpAny Try.prog .any ops Q (fuel + 1) listed a w := by
  subst hd
  exact wpAny_take hi hs hf hr hQ hy h
/-- the same of one that reads, in a class of worlds -/
theorem take_lawH {ops : Array Oper} {Q : Exit → Act → World → Prop} {S : World → Prop} (i : Nat) {oi : Oper} (d : Option Tmp) (v : Value) {fuel : Nat} {listed : Array Bool} {a : Act} {w : World} (hi : ops[i]? = some oi) (hd : oi.dst = d)
    (hs : Region.noSelect ops = true) (hf : Region.free .any ops listed i = true) (hr : (Region.ready .any ops listed).contains i = true)
    (hQ : ∀ c a w, Q (.panic c) (a.put d v) w → Q (.panic c) a w) (hy : YieldsIf Try.prog ops S oi v a) (hS : S w)
    (h : wpAnyH Try.prog .any ops Q S fuel (listed.setIfInBounds i true) (a.put d v) w) : wpAnyH Try.prog .any ops Q S (fuel + 1) listed a w := by
  subst hd
  exact wpAnyH_take hi hs hf hr hQ hy hS h

section
variable {ops : Array Oper} {C : World → Prop} {K : Act → Prop} {o : Oper} {a : Act}
/-- the address of an array's element -/
theorem q_idxA (hw : Region.wanted o (yielded ops a.tmps) = true) (d : Option Tmp) (hd : o.dst = d) (x y : Operand) (t : TypeId) (hop : o.op = Op.indexAddr t x y) (b p q n s i : Nat) (hu : Try.prog.underlying t = some (.array (Try.prog.arrayLen t) (Try.prog.elem t))) (hn : Try.prog.arrayLen t = n) (hs : (Try.prog.info? (Try.prog.elem t)).map (·.size) = some s)
    (hx : a.eval x = .pointer (some ⟨b, p, none⟩)) (hy : a.eval y = .int .i64 (i : Int)) (hi : i < n) (hq : q = p + i * s)
    (hK : K (a.put d (.pointer (some ⟨b, q, none⟩)))) :
    if Region.wanted o (yielded ops a.tmps) = true then o.quiet Try.prog a C K else K (a.put o.dst undef) := by
  refine q_val hw d hd _ (fun w _ => ?_) hK
  subst hq
  have hsz : (sizeOf (Try.prog.elem t)).run Try.prog w = .ok s w := by
    cases hqq : Try.prog.info? (Try.prog.elem t) with
    | none => simp [hqq] at hs
    | some i0 =>
      have : i0.size = s := by simpa [hqq] using hs
      simp [sizeOf, typeInfo, hqq, this]
  have hr : (Instr.indexAt t (.pointer (some ⟨b, p, none⟩)) (.int .i64 (i : Int))).run Try.prog w = .ok (.pointer (some ⟨b, p + i * s, none⟩)) w := by
    rw [run_indexAt_array _ _ _ _ _ hu, if_pos (by omega), hsz]
    simp [Result.andThen, Addr.add]
  unfold execOp
  simp only [hop, hx, hy, Sem.run_bind, Sem.run_pure, Result.andThen_ok, hr]
/-- 'x[:]' of an array -/
theorem q_allA (hw : Region.wanted o (yielded ops a.tmps) = true) (d : Option Tmp) (hd : o.dst = d) (x : Operand) (t : TypeId) (hop : o.op = Op.slice t x none none none) (b p n : Nat) (hu : Try.prog.underlying t = some (.array (Try.prog.arrayLen t) (Try.prog.elem t))) (hn : Try.prog.arrayLen t = n) (hs : (Try.prog.info? (Try.prog.elem t)).map (·.size) = some 1)
    (hx : a.eval x = .pointer (some ⟨b, p, none⟩))
    (hK : K (a.put d (.slice (some ⟨b, p, none⟩) n n))) :
    if Region.wanted o (yielded ops a.tmps) = true then o.quiet Try.prog a C K else K (a.put o.dst undef) := by
  refine q_val hw d hd _ (fun w _ => ?_) hK
  have hsz : (sizeOf (Try.prog.elem t)).run Try.prog w = .ok 1 w := by
    cases hqq : Try.prog.info? (Try.prog.elem t) with
    | none => simp [hqq] at hs
    | some i0 =>
      have : i0.size = 1 := by simpa [hqq] using hs
      simp [sizeOf, typeInfo, hqq, this]
  have hrun := run_sliceAt_array_all (P := Try.prog) w t ⟨b, p, none⟩ hu
  rw [hsz, hn] at hrun
  have hv : slicedAt ⟨b, p, none⟩ 0 n n 1 = .slice (some ⟨b, p, none⟩) n n := by
    unfold slicedAt
    rw [Nat.zero_mul, Addr.add_mid]
    simp
  simp only [Result.andThen] at hrun
  rw [hv] at hrun
  unfold execOp
  simp only [hop, hx, Option.map, Sem.run_bind, Sem.run_pure, Result.andThen_ok, hrun]
/-- a whole array is read, in the middle of a block -/
theorem q_loadA (hw : Region.wanted o (yielded ops a.tmps) = true) (d : Option Tmp) (hd : o.dst = d) (x : Operand) (t : TypeId) (hop : o.op = Op.load t x) (k : IntKind) (xs : List Int) (b p : Nat) (hx : a.eval x = .pointer (some ⟨b, p, none⟩)) (h : ∀ w, C w → Ar w b p k xs)
    (m n : Nat) (e : TypeId) (hu : Try.prog.underlying t = some (.array m e)) (hi : (Try.prog.info? t).map (·.size) = some n) (hn : xs.length = n) (hK : K (a.put d (.agg (ints k xs)))) :
    if Region.wanted o (yielded ops a.tmps) = true then o.quiet Try.prog a C K else K (a.put o.dst undef) := by
  refine q_val hw d hd _ (fun w hC => ?_) hK
  have := run_loadVar_mid (P := Try.prog) w b p t _ _ (h w hC).1 hu rfl (by rw [hi]; simp [hn])
  unfold execOp
  simp only [hop, hx, Instr.loadAt, Instr.sureAddr, Sem.run_bind, Sem.run_pure, Result.andThen_ok, this]
  rfl
end

section
variable {ops : Array Oper} {rest : List Oper} {o : Oper} {a : Act} {Q : Exit → Act → World → Prop}
/-- a whole array is read, of whatever elements -/
theorem load_lawN (w : World) (hg : o.guard = none) (x : Operand) (t : TypeId) (hop : o.op = Op.load t x) (k : IntKind) (xs : List Int) (b p : Nat) (hx : a.eval x = .pointer (some ⟨b, p, none⟩)) (h : Ar w b p k xs)
    (m n : Nat) (e : TypeId) (hu : Try.prog.underlying t = some (.array m e)) (hi : (Try.prog.info? t).map (·.size) = some n) (hn : xs.length = n)
    (hK : wpList Try.prog ops Q rest (a.put o.dst (.agg (ints k xs))) w) :
    wpList Try.prog ops Q (o :: rest) a w :=
  wpList_load_mid hg t x hop b p hx _ _ h.1 hu rfl (by rw [hi]; simp [hn]) hK
end
theorem results_arN {fn : Func} {p : Tmp} {ty : TypeId} (h : fn.results = #[.cell p ty]) (tmps : Array Value) (w : World) (b o : Nat) (k : IntKind) (xs : List Int) (hp : tmps.getD p undef = .pointer (some ⟨b, o, none⟩)) (ha : Ar w b o k xs)
    (m n : Nat) (e : TypeId) (hu : Try.prog.underlying ty = some (.array m e)) (hi : (Try.prog.info? ty).map (·.size) = some n) (hn : xs.length = n) : (results fn tmps).run Try.prog w = .ok (.agg (ints k xs)) w := by
  have hp' : tmps[p]?.getD undef = .pointer (some ⟨b, o, none⟩) := by simpa using hp
  have hl := run_loadVar_mid (P := Try.prog) w b o ty _ _ ha.1 hu rfl (by rw [hi]; simp [hn])
  simp [results, h, hp', asAddr, hl, ints]
end Go.Proofs.Ytijadglmbopboaa

/- What field's weigh, Mix and Unmix answer. No claim of its own. -/
namespace Go.Proofs.Ytijadglmbopboaa
open Go.RowKit

theorem i_arr4 : (Try.prog.info? 57).map (·.size) = some 4 := by kernel_rfl
theorem z_arr4 : (Try.prog.info? 57).map (fun i => (i.zero, i.size)) = some (some (.agg (ints .u8 z4)), z4.length) := by kernel_rfl

/-- an array's element -/
theorem idx4 {ops : Array Oper} {rest : List Oper} {o : Oper} {a : Act} {Q : Exit → Act → World → Prop} (w : World) (hg : o.guard = none) (x y : Operand) (hop : o.op = Op.index 57 x y) (xs : List Int) (I : Int) (i : Nat) (hx : a.eval x = .agg (ints .u8 xs)) (hy : a.eval y = .int .i64 I) (hI : I = (i : Int)) (hl : xs.length = 4) (hi : i < 4)
    (q : Int) (hq : q = gb xs i) (hK : wpList Try.prog ops Q rest (a.put o.dst (.int .u8 q)) w) : wpList Try.prog ops Q (o :: rest) a w := by
  subst hq
  subst hI
  refine wpList_plain hg fun K hK' => ?_
  have e : (ints .u8 xs)[i]? = some (.int .u8 (gb xs i)) := by simp [ints, gb, List.getD, show i < xs.length by omega]
  have hu := Try.underlying57
  have hu2 := Try.underlying5
  have hsz : (ints .u8 xs).size = 4 := by simp [ints, hl]
  have hr : (Instr.index 57 (.agg (ints .u8 xs)) (.int .i64 i)).run Try.prog w = .ok (.int .u8 (gb xs i)) w := by
    simp [Instr.index, asIntOf, run_underlying hu, run_underlying hu2, Go.part, isAgg, e]
    intro h; omega
  unfold Oper.wp execOp
  simp only [hop, hx, hy, Sem.run_bind, Sem.run_pure, Result.andThen_ok, hr]
  exact hK' _ _ hK

set_option linter.unusedSimpArgs false in
set_option maxRecDepth 20000 in
set_option maxHeartbeats 4000000 in
theorem weigh_any (cs vs : List Nat) (w : World) (hc : Col cs) (hv : Col vs) :
    Calls Try.prog 66 #[.agg (ints .u8 (cI cs)), .agg (ints .u8 (cI vs))] w fun e w' => e = .returned (.agg (ints .u8 (cI (trn cs vs)))) ∧ Below w.heap.size w w' := by
  have HC : Hid (Col cs) := hc
  have HV : Hid (Col vs) := hv
  have LC : Hid ((cI cs).length = 4) := by show _ = _; rw [cI_len]; exact hc.1
  have LV : Hid ((cI vs).length = 4) := by show _ = _; rw [cI_len]; exact hv.1
  have GC : Hid (∀ i, gb (cI cs) i = (gn cs i : Int)) := gb_cI cs
  have GV : Hid (∀ i, gb (cI vs) i = (gn vs i : Int)) := gb_cI vs
  have HE : Hid (prt cs vs 4 0 = cI (trn cs vs) ∧ (cI (trn cs vs)).length = 4) := ⟨prt_end cs vs, rfl⟩
  have HZ : Hid (prt cs vs 0 0 = z4) := prt_zero cs vs
  obtain ⟨xs, hxs⟩ : ∃ xs, xs = cI cs := ⟨_, rfl⟩
  obtain ⟨ys, hys⟩ : ∃ ys, ys = cI vs := ⟨_, rfl⟩
  obtain ⟨zs, hzs⟩ : ∃ zs, zs = cI (trn cs vs) := ⟨_, rfl⟩
  rw [← hxs] at LC GC
  rw [← hys] at LV GV
  rw [← hzs] at HE
  rw [← hxs, ← hys, ← hzs]
  clear hxs hys hzs hc hv
  go_enter Try.func66, Try.ntmps66
  go_wp2_with (first
    | (refine box_lawF _ rfl (.tmp 0) 57 rfl .u8 xs rfl ?_; intro w1 A1 B1 s1; have HA1 : Hid (Ar w1 w.heap.size 0 .u8 xs) := A1; clear A1)
    | (refine box_lawF _ rfl (.tmp 1) 57 rfl .u8 ys rfl ?_; intro w2 A2 B2 s2; have HA2 : Hid (Ar w2 w1.heap.size 0 .u8 ys) := A2; clear A2)
    | (have q2 := s2; have q3 := s3; refine new_lawF _ rfl 57 rfl .u8 z4 z_arr4 ?_; intro w4 A4 B4 s4; have HA4 : Hid (Ar w4 w3.heap.size 0 .u8 z4) := A4; clear A4)
    | (have q2 := s2; refine new_lawF _ rfl 57 rfl .u8 z4 z_arr4 ?_; intro w3 A3 B3 s3; have HA3 : Hid (Ar w3 w2.heap.size 0 .u8 z4) := A3; clear A3))
  have D1 : Hid (Ar w3 w.heap.size 0 .u8 xs) := (HA1.out.below B2 s1).below B3 (by omega)
  have D2 : Hid (Ar w3 w1.heap.size 0 .u8 ys) := HA2.out.below B3 s2
  have BW : Below w.heap.size w w3 := (B1.trans (B2.mono (by omega))).trans (B3.mono (by omega))
  have o1 : w.heap.size < w3.heap.size := by omega
  have o2 : w1.heap.size < w3.heap.size := by omega
  have o3 : w2.heap.size < w3.heap.size := by omega
  generalize w2.heap.size = g2 at *
  generalize w1.heap.size = g1 at *
  generalize w3.heap.size = g3 at *
  go_loopw [9] (fun i wr => ∃ k : Nat, k ≤ 4 ∧ i = .int .i64 k ∧ Ar wr g3 0 .u8 (prt cs vs k 0) ∧ Below g3 w3 wr) (fun i _ => 4 - (intOf i).toNat)
  case atStart => exact ⟨0, Nat.zero_le _, rfl, by rw [HZ.out]; exact HA4.out, B4⟩
  case round =>
    obtain ⟨k, hk, rfl, hA, hB⟩ := hrel
    obtain ⟨wa, rfl⟩ : ∃ wx, wx = wr := ⟨_, rfl⟩
    have k0 : (0 : Int) ≤ (k : Int) := by omega
    have q1 : IntKind.i64.wrap (k : Int) = k := by rw [IntKind.wrap_i64]; omega
    have HB : Hid (Below g3 w3 wa) := hB
    have HA : Hid (Ar wa g3 0 .u8 (prt cs vs k 0)) := hA
    clear hA
    by_cases hlt : k < 4
    · have k1 : (k : Int) < 4 := by omega
      go_wp2_with (refine load_law _ rfl (.tmp 3) 57 rfl .u8 ys g1 0 rfl (D2.out.below HB.out o2) 4 5 Try.underlying57 i_arr4 LV.out ?_)
      go_loopw [13] (fun j wr => ∃ m : Nat, m ≤ 4 ∧ j = .int .i64 m ∧ Ar wr g3 0 .u8 (prt cs vs k m) ∧ Below g3 w3 wr) (fun j _ => 4 - (intOf j).toNat)
      case atStart => exact ⟨0, Nat.zero_le _, rfl, HA.out, HB.out⟩
      case round =>
        obtain ⟨m, hm, rfl, hA', hB'⟩ := hrel
        obtain ⟨wb, rfl⟩ : ∃ wx, wx = wr := ⟨_, rfl⟩
        clear HA HB hB
        have m0 : (0 : Int) ≤ (m : Int) := by omega
        have q2 : IntKind.i64.wrap (m : Int) = m := by rw [IntKind.wrap_i64]; omega
        by_cases hmt : m < 4
        · have m1 : (m : Int) < 4 := by omega
          obtain ⟨j, hj⟩ : ∃ j, j = (k + m) % 4 := ⟨_, rfl⟩
          have j0 : (0 : Int) ≤ (j : Int) := by omega
          have j1 : (j : Int) < 4 := by omega
          have q3 : IntKind.i64.wrap (j : Int) = j := by rw [IntKind.wrap_i64]; omega
          have q4 : IntKind.i64.wrap ((k : Int) + (m : Int)) = (k : Int) + (m : Int) := by rw [IntKind.wrap_i64]; omega
          have r1 : ((k : Int) + (m : Int)) % 4 = (j : Int) := by omega
          have r2 : ((k : Int) + (m : Int)).tmod 4 = (j : Int) := by rw [Int.tmod_eq_emod_of_nonneg (by omega)]; omega
          have c0 := hA'.cell0 k (by rw [prt_len]; omega)
          rw [prt_at cs vs k m hlt] at c0
          have c1 := (D1.out.below hB' o1).cell0 j (by rw [LC.out]; omega)
          rw [GC.out] at c1
          have HM : Hid (∀ w0, Calls Try.prog 72 #[.int .u8 (gn cs j), .int .u8 (gn vs m)] w0 fun e w' => e = .returned (.int .u8 (gm (gn vs m) (gn cs j))) ∧ w' = w0) := fun w0 => by rw [gm_comm (gn vs m) (gn cs j) (HV.out.2 m) (HC.out.2 j)]; exact mul_any _ _ w0 (HC.out.2 j) (HV.out.2 m)
          have hx := u8_xor_nat (acc cs vs k m) (gm (gn vs m) (gn cs j)) (acc_lt cs vs HV.out k m) (gm_lt _ _ (HV.out.2 m))
          have hy : acc cs vs k m ^^^ gm (gn vs m) (gn cs j) = acc cs vs k (m + 1) := by rw [hj]; rfl
          rw [hy] at hx
          have HS : Hid ((prt cs vs k m).set k ((acc cs vs k (m + 1) : Nat) : Int) = prt cs vs k (m + 1)) := prt_set cs vs k m
          have HGV : Hid (((gn vs m : Nat) : Int) = gb ys m) := (GV.out m).symm
          have HA' : Hid (Ar wb g3 0 .u8 (prt cs vs k m)) := hA'
          have HB' : Hid (Below g3 w3 wb) := hB'
          clear hA' hB' hy hj
          generalize acc cs vs k (m + 1) = y1 at *
          generalize acc cs vs k m = y0 at *
          generalize gm (gn vs m) (gn cs j) = p at *
          generalize gn cs j = c at *
          generalize gn vs m = v at *
          go_wp2_with (refine idx4 _ rfl (.tmp 12) (.tmp 13) rfl ys _ m rfl rfl rfl LV.out (by omega) (v : Int) HGV.out ?_)
          refine wp_region_any (by kernel_rfl) ?_
          change wpAny _ _ _ _ _ _ _ (World.drew _)
          refine wpAny_quiet_then (C := fun w' => ∃ n, w' = wb.drewN n) 0 13 1 _ (by kernel_rfl) rfl (by kernel_rfl) (by kernel_rfl) ⟨1, rfl⟩ ?_
          simp only [List.take_succ_cons, List.take_zero, List.drop_zero]
          repeat (quiet_step (with_reducible exact Calls.quiet_of_same (HM.out _)))
          refine wpQuiet_nil ?_
          rintro f _ ⟨nq, rfl⟩
          have A1 := HA'.out.drewN nq
          have A2 := A1.set0 k (by rw [prt_len]; omega) (y1 : Int)
          rw [HS.out] at A2
          have B2' : Below g3 w3 ((wb.drewN nq).setCell ⟨g3, k, none⟩ (.int .u8 (y1 : Int))) := (below_drewN HB'.out nq).setCell (Nat.le_refl _) _
          refine wpAny_ready (rs := [13]) (by kernel_rfl) (by simp) ?_
          refine AllReady.cons rfl (fun K hK => ?_) AllReady.nil
          refine step_set _ rfl none rfl (.tmp 29) (.tmp 28) 5 rfl .u8 (y1 : Int) g3 k rfl (by first | rfl | (rw [← hx]; rfl)) (by rw [A1.cell0 k (by rw [prt_len]; omega)]; rfl) (A1.free0 k (by rw [prt_len]; omega)) i_u8 (hK _ _ ?_)
          simp only [Act.put, List.setIfInBounds_toArray, List.set_cons_zero, List.set_cons_succ]
          have HA6 : Hid (Ar ((wb.drewN nq).setCell ⟨g3, k, none⟩ (.int .u8 (y1 : Int))) g3 0 .u8 (prt cs vs k (m + 1))) := A2
          have HB6 : Hid (Below g3 w3 ((wb.drewN nq).setCell ⟨g3, k, none⟩ (.int .u8 (y1 : Int)))) := B2'
          clear A1 A2 B2' c0 c1
          generalize (wb.drewN nq).setCell ⟨g3, k, none⟩ (.int .u8 (y1 : Int)) = w6 at *
          refine wpAny_done (by kernel_rfl) ?_ _
          go_wp2
          go_roundw
          case rel => exact ⟨m + 1, by omega, by go_num, HA6.out, HB6.out⟩
          case measure => simp [intOf]; omega
        · have hm4 : m = 4 := by omega
          subst hm4
          rw [prt_row cs vs k hlt] at hA'
          have HA6 : Hid (Ar wb g3 0 .u8 (prt cs vs (k + 1) 0)) := hA'
          have HB6 : Hid (Below g3 w3 wb) := hB'
          clear hA' hB'
          go_wp2
          go_roundw
          case rel => exact ⟨k + 1, by omega, by go_num, HA6.out, HB6.out⟩
          case measure => simp [intOf]; omega
    · have hk4 : k = 4 := by omega
      subst hk4
      rw [HE.out.1] at HA
      have D3 : Hid (Ar wa g2 0 .u8 z4) := HA3.out.below HB.out o3
      go_wp2_with (first
        | (refine load_law _ rfl (.tmp 5) 57 rfl .u8 zs g3 0 rfl HA.out 4 5 Try.underlying57 i_arr4 HE.out.2 ?_)
        | (refine store_lawF _ rfl (.tmp 4) (.tmp 32) 57 rfl .u8 z4 zs g2 rfl rfl D3.out 4 i_arr4 rfl HE.out.2 ?_; intro w7 A7 B7))
      refine bodyPost_ret (v := .agg (ints .u8 zs)) (results_ar rfl _ _ g2 0 .u8 zs rfl A7 4 5 Try.underlying57 i_arr4 HE.out.2) rfl ⟨rfl, ?_⟩
      exact (BW.trans (hB.mono (by omega))).trans (B7.mono (by omega))

set_option maxHeartbeats 2000000 in
theorem mix_any (cs : List Nat) (w : World) (hc : Col cs) :
    Calls Try.prog 47 #[.agg (ints .u8 (cI cs))] w fun e w' => e = .returned (.agg (ints .u8 (cI (trn cs mixW)))) ∧ Below w.heap.size w w' := by
  have HW : Hid (∀ w0, Calls Try.prog 66 #[.agg (ints .u8 (cI cs)), .agg (ints .u8 (cI mixW))] w0 fun e w' => e = .returned (.agg (ints .u8 (cI (trn cs mixW)))) ∧ Below w0.heap.size w0 w') := fun w0 => weigh_any cs mixW w0 hc mixW_col
  have LC : Hid ((cI cs).length = 4) := by show _ = _; rw [cI_len]; exact hc.1
  have LZ : Hid ((cI (trn cs mixW)).length = 4) := rfl
  obtain ⟨ys, hys⟩ : ∃ ys, ys = cI mixW := ⟨_, rfl⟩
  have HY : Hid (ys = cI mixW) := hys
  rw [← hys] at HW
  generalize cI (trn cs mixW) = zs at *
  generalize cI cs = xs at *
  clear hys hc
  go_enter Try.func47, Try.ntmps47
  go_wp2_with (first
    | (refine box_lawF _ rfl (.tmp 0) 57 rfl .u8 xs rfl ?_; intro w1 A1 B1 s1; have HA1 : Hid (Ar w1 w.heap.size 0 .u8 xs) := A1; clear A1)
    | (have q1 := s1; refine new_lawF _ rfl 57 rfl .u8 z4 z_arr4 ?_; intro w2 A2 B2 s2; have HA2 : Hid (Ar w2 w1.heap.size 0 .u8 z4) := A2; clear A2; have D1 : Hid (Ar w2 w.heap.size 0 .u8 xs) := HA1.out.below B2 s1)
    | (have q2 := s2; refine load_law _ rfl (.tmp 1) 57 rfl .u8 xs w.heap.size 0 rfl D1.out 4 5 Try.underlying57 i_arr4 LC.out ?_)
    | (have q2 := s2; refine build_law _ rfl 57 _ rfl (.agg (ints .u8 ys)) (by rw [HY.out]; kernel_rfl) ?_)
    | (go_at_call 66; refine (HW.out _).mono ?_; rintro e w3 ⟨rfl, B3⟩; have HA3 : Hid (Ar w3 w1.heap.size 0 .u8 z4) := HA2.out.below B3 s2)
    | (refine store_lawF _ rfl (.tmp 2) (.tmp 5) 57 rfl .u8 z4 zs w1.heap.size rfl rfl HA3.out 4 i_arr4 rfl LZ.out ?_; intro w4 A4 B4))
  refine bodyPost_ret (v := .agg (ints .u8 zs)) (results_ar rfl _ _ w1.heap.size 0 .u8 zs rfl A4 4 5 Try.underlying57 i_arr4 LZ.out) rfl ⟨rfl, ?_⟩
  exact ((B1.trans (B2.mono (by omega))).trans (B3.mono (by omega))).trans (B4.mono (by omega))

set_option maxHeartbeats 2000000 in
theorem unmix_any (cs : List Nat) (w : World) (hc : Col cs) :
    Calls Try.prog 52 #[.agg (ints .u8 (cI cs))] w fun e w' => e = .returned (.agg (ints .u8 (cI (trn cs unmW)))) ∧ Below w.heap.size w w' := by
  have HW : Hid (∀ w0, Calls Try.prog 66 #[.agg (ints .u8 (cI cs)), .agg (ints .u8 (cI unmW))] w0 fun e w' => e = .returned (.agg (ints .u8 (cI (trn cs unmW)))) ∧ Below w0.heap.size w0 w') := fun w0 => weigh_any cs unmW w0 hc unmW_col
  have LC : Hid ((cI cs).length = 4) := by show _ = _; rw [cI_len]; exact hc.1
  have LZ : Hid ((cI (trn cs unmW)).length = 4) := rfl
  obtain ⟨ys, hys⟩ : ∃ ys, ys = cI unmW := ⟨_, rfl⟩
  have HY : Hid (ys = cI unmW) := hys
  rw [← hys] at HW
  generalize cI (trn cs unmW) = zs at *
  generalize cI cs = xs at *
  clear hys hc
  go_enter Try.func52, Try.ntmps52
  go_wp2_with (first
    | (refine box_lawF _ rfl (.tmp 0) 57 rfl .u8 xs rfl ?_; intro w1 A1 B1 s1; have HA1 : Hid (Ar w1 w.heap.size 0 .u8 xs) := A1; clear A1)
    | (have q1 := s1; refine new_lawF _ rfl 57 rfl .u8 z4 z_arr4 ?_; intro w2 A2 B2 s2; have HA2 : Hid (Ar w2 w1.heap.size 0 .u8 z4) := A2; clear A2; have D1 : Hid (Ar w2 w.heap.size 0 .u8 xs) := HA1.out.below B2 s1)
    | (have q2 := s2; refine load_law _ rfl (.tmp 1) 57 rfl .u8 xs w.heap.size 0 rfl D1.out 4 5 Try.underlying57 i_arr4 LC.out ?_)
    | (have q2 := s2; refine build_law _ rfl 57 _ rfl (.agg (ints .u8 ys)) (by rw [HY.out]; kernel_rfl) ?_)
    | (go_at_call 66; refine (HW.out _).mono ?_; rintro e w3 ⟨rfl, B3⟩; have HA3 : Hid (Ar w3 w1.heap.size 0 .u8 z4) := HA2.out.below B3 s2)
    | (refine store_lawF _ rfl (.tmp 2) (.tmp 5) 57 rfl .u8 z4 zs w1.heap.size rfl rfl HA3.out 4 i_arr4 rfl LZ.out ?_; intro w4 A4 B4))
  refine bodyPost_ret (v := .agg (ints .u8 zs)) (results_ar rfl _ _ w1.heap.size 0 .u8 zs rfl A4 4 5 Try.underlying57 i_arr4 LZ.out) rfl ⟨rfl, ?_⟩
  exact ((B1.trans (B2.mono (by omega))).trans (B3.mono (by omega))).trans (B4.mono (by omega))
end Go.Proofs.Ytijadglmbopboaa

/- What aes' cut, stateOf and list answer: a state is a row of sixteen bytes. No claim of its own. -/
namespace Go.Proofs.Ytijadglmbopboaa
open Go.RowKit

def z16 : List Int := List.replicate 16 0
theorem z16_len : z16.length = 16 := List.length_replicate
theorem z_st : (Try.prog.info? 66).map (fun i => (i.zero, i.size)) = some (some (.agg (ints .u8 z16)), z16.length) := by kernel_rfl
theorem i_st : (Try.prog.info? 66).map (·.size) = some 16 := by kernel_rfl
theorem ua_st : Try.prog.underlying 66 = some (.array (Try.prog.arrayLen 66) (Try.prog.elem 66)) := by kernel_rfl
theorem la_st : Try.prog.arrayLen 66 = 4 := by kernel_rfl
theorem ia_st : (Try.prog.info? (Try.prog.elem 66)).map (·.size) = some 4 := by kernel_rfl
theorem ua_arr4 : Try.prog.underlying 57 = some (.array (Try.prog.arrayLen 57) (Try.prog.elem 57)) := by kernel_rfl
theorem la_arr4 : Try.prog.arrayLen 57 = 4 := by kernel_rfl
theorem ia_arr4 : (Try.prog.info? (Try.prog.elem 57)).map (·.size) = some 1 := by kernel_rfl

theorem cut4_len (xs : List Int) (i : Nat) (h : 4 * i + 4 ≤ xs.length) : (cut4 xs i).length = 4 := by simp [cut4]; omega
theorem cut4_all (xs : List Int) (i : Nat) (ha : AllB xs) : AllB (cut4 xs i) := allB_mem fun x hx => by
  obtain ⟨j, hj, rfl⟩ := mem_gb (List.mem_of_mem_take (List.mem_of_mem_drop hx))
  exact ha j
/-- an element of a state: a column -/
theorem idx_st {ops : Array Oper} {rest : List Oper} {o : Oper} {a : Act} {Q : Exit → Act → World → Prop} (w : World) (hg : o.guard = none) (x y : Operand) (hop : o.op = Op.index 66 x y) (xs : List Int) (I : Int) (i : Nat) (hx : a.eval x = .agg (ints .u8 xs)) (hy : a.eval y = .int .i64 I) (hI : I = (i : Int)) (hi : i < 4)
    (ys : List Int) (hq : ys = cut4 xs i) (hK : wpList Try.prog ops Q rest (a.put o.dst (.agg (ints .u8 ys))) w) : wpList Try.prog ops Q (o :: rest) a w := by
  subst hq
  subst hI
  refine wpList_plain hg fun K hK' => ?_
  have hu := Try.underlying66
  have hu2 := Try.underlying57
  have e : (ints .u8 xs).extract (i * 4) (i * 4 + 4) = ints .u8 (cut4 xs i) := by
    apply Array.ext'
    simp [ints, cut4, Nat.mul_comm 4 i, List.drop_take, List.map_take, List.map_drop]
  have hsz : (sizeOf 57).run Try.prog w = .ok 4 w := by
    cases hqq : Try.prog.info? 57 with
    | none => have := i_arr4; simp [hqq] at this
    | some i0 =>
      have : i0.size = 4 := by have := i_arr4; simpa [hqq] using this
      simp [sizeOf, typeInfo, hqq, this]
  have hr : (Instr.index 66 (.agg (ints .u8 xs)) (.int .i64 i)).run Try.prog w = .ok (.agg (ints .u8 (cut4 xs i))) w := by
    simp [Instr.index, asIntOf, run_underlying hu, run_underlying hu2, Go.part, isAgg, hsz, e]
    intro h; omega
  unfold Oper.wp execOp
  simp only [hop, hx, hy, Sem.run_bind, Sem.run_pure, Result.andThen_ok, hr]
  exact hK' _ _ hK

set_option maxHeartbeats 1000000 in
theorem cut_any (b off n cap i : Nat) (w : World) (hi : 4 * i + 4 ≤ n) (hn : n ≤ cap) (hs : i ≤ 1000) :
    Calls Try.prog 60 #[.slice (some ⟨b, off, none⟩) n cap, .int .i64 i] w fun e w' => e = .returned (.slice (some ⟨b, off + 4 * i, none⟩) 4 4) ∧ w' = w := by
  have k1 : IntKind.i64.wrap (4 * (i : Int)) = 4 * (i : Int) := by rw [IntKind.wrap_i64]; omega
  have k2 : IntKind.i64.wrap (4 * (i : Int) + 4) = 4 * (i : Int) + 4 := by rw [IntKind.wrap_i64]; omega
  have k3 : (0 : Int) ≤ 4 * (i : Int) := by omega
  have k4 : 4 * (i : Int) + 4 ≤ (cap : Int) := by omega
  have k5 : 4 * (i : Int) ≤ 4 * (i : Int) + 4 := by omega
  go_enter Try.func60, Try.ntmps60
  go_wp2
  go_ret
  refine ⟨?_, rfl⟩
  show Ending.returned (Value.slice (some ⟨b, off + 4 * i, none⟩) (4 * i + 4 - 4 * i) (4 * i + 4 - 4 * i)) = _
  rw [show 4 * i + 4 - 4 * i = 4 by omega]

theorem gb_filled (zs : List Int) (k t : Nat) (h : t < zs.length) : gb (filled zs k) t = if t < k then gb zs t else 0 := by
  unfold filled
  by_cases hk : t < k
  · rw [if_pos hk]
    simp only [gb, List.getD, List.getElem?_append, List.length_take, show t < min k zs.length by omega, if_true, List.getElem?_take, hk]
  · rw [if_neg hk]
    simp only [gb, List.getD, List.getElem?_append, List.length_take, show ¬ t < min k zs.length by omega, if_false, List.getElem?_replicate]
    split <;> rfl
theorem filled_len (zs : List Int) (k : Nat) : (filled zs k).length = zs.length := by simp [filled]; omega
/-- four more bytes -/
theorem filled_cut (xs : List Int) (k : Nat) (h : 4 * k + 4 ≤ xs.length) : laid (filled xs (4 * k)) (4 * k) (cut4 xs k) = filled xs (4 * (k + 1)) := by
  have hc := cut4_len xs k h
  refine ext_gb (by rw [laid_len _ _ _ (by rw [filled_len, hc]; exact h), filled_len, filled_len]) fun t ht => ?_
  rw [laid_len _ _ _ (by rw [filled_len, hc]; exact h), filled_len] at ht
  rw [gb_laid _ _ _ (by rw [filled_len, hc]; exact h), gb_filled _ _ _ ht, gb_filled _ _ _ ht, hc]
  by_cases h1 : t < 4 * k
  · rw [if_pos h1, if_pos h1, if_pos (by omega)]
  · rw [if_neg h1, if_neg h1]
    by_cases h2 : t < 4 * k + 4
    · rw [if_pos h2, if_pos (by omega), cut4_gb _ _ _ (by omega), show 4 * k + (t - 4 * k) = t by omega]
    · rw [if_neg h2, if_neg (by omega)]
theorem filled16 (xs : List Int) (h : xs.length = 16) : filled xs 0 = z16 ∧ filled xs 16 = xs := by
  refine ⟨by rw [filled_zero, h]; rfl, ?_⟩
  have := filled_end xs
  rwa [h] at this

set_option linter.unusedSimpArgs false in
set_option maxRecDepth 20000 in
set_option maxHeartbeats 2000000 in
theorem of_any (v : Value) (xs : List Int) (w : World) (hv : Byt w v xs) (hl : xs.length = 16) :
    Calls Try.prog 41 #[v] w fun e w' => e = .returned (.agg (ints .u8 xs)) ∧ Below w.heap.size w w' := by
  have HX : Hid (AllB xs) := hv.all
  obtain ⟨ao, ca, rfl, ha1, ha2, ha3, -, ha5⟩ := hv
  obtain ⟨bb, bo, rfl, hcell⟩ := ha5 (by omega)
  have HC : Hid (∀ t, t < xs.length → w.cell? ⟨bb, bo + t, none⟩ = some (.int .u8 (gb xs t))) := hcell
  have HL : Hid (xs.length = 16) := hl
  have HF : Hid (filled xs 0 = z16 ∧ filled xs 16 = xs) := filled16 xs hl
  have hbw : bb < w.heap.size := World.block_lt_of_cell? w _ (hcell 0 (by omega))
  rw [hl] at ha1 ⊢
  clear hcell ha5 hl ha3
  go_enter Try.func41, Try.ntmps41
  go_wp2_with (first
    | (have q1 := s1; refine new_lawF _ rfl 66 rfl .u8 z16 z_st ?_; intro w2 A2 B2 s2; have HA2 : Hid (Ar w2 w1.heap.size 0 .u8 z16) := A2; clear A2)
    | (refine new_lawF _ rfl 66 rfl .u8 z16 z_st ?_; intro w1 A1 B1 s1; have HA1 : Hid (Ar w1 w.heap.size 0 .u8 z16) := A1; clear A1))
  have o1 : w.heap.size < w1.heap.size := s1
  have BW : Below w.heap.size w w1 := B1
  generalize w1.heap.size = g3 at *
  go_loopw [5] (fun i wr => ∃ k : Nat, k ≤ 4 ∧ i = .int .i64 k ∧ Ar wr g3 0 .u8 (filled xs (4 * k)) ∧ Below g3 w1 wr) (fun i _ => 4 - (intOf i).toNat)
  case atStart => exact ⟨0, Nat.zero_le _, rfl, by rw [Nat.mul_zero, HF.out.1]; exact HA2.out, B2⟩
  case round =>
    obtain ⟨k, hk, rfl, hA, hB⟩ := hrel
    have k0 : (0 : Int) ≤ (k : Int) := by omega
    have q1 : IntKind.i64.wrap (k : Int) = k := by rw [IntKind.wrap_i64]; omega
    by_cases hlt : k < 4
    · have k1 : (k : Int) < 4 := by omega
      have HCut : Hid (∀ w0, Calls Try.prog 60 #[.slice (some ⟨bb, bo, none⟩) 16 ca, .int .i64 k] w0 fun e w' => e = .returned (.slice (some ⟨bb, bo + 4 * k, none⟩) 4 4) ∧ w' = w0) := fun w0 => cut_any bb bo 16 ca k w0 (by omega) ha1 (by omega)
      have HA : Hid (Ar wr g3 0 .u8 (filled xs (4 * k))) := hA
      have HB : Hid (Below g3 w1 wr) := hB
      have HY : Hid (∀ nq, Byt (wr.drewN nq) (.slice (some ⟨bb, bo + 4 * k, none⟩) 4 4) (cut4 xs k)) := fun nq => by
        have hln := cut4_len xs k (by rw [HL.out]; omega)
        refine ⟨some ⟨bb, bo + 4 * k, none⟩, 4, by rw [hln], by omega, by omega, cut4_all xs k HX.out, (by intro h; cases h), fun _ => ⟨bb, bo + 4 * k, rfl, fun t ht => ?_⟩⟩
        have c := HC.out (4 * k + t) (by rw [HL.out]; omega)
        rw [cut4_gb _ _ _ (by omega), Nat.add_assoc]
        show wr.cell? _ = _
        rw [((BW.trans (HB.out.mono (by omega))).cell hbw)]
        exact c
      clear hA hB
      go_wp2
      refine wp_region_any (by kernel_rfl) ?_
      change wpAny _ _ _ _ _ _ _ (World.drew _)
      refine wpAny_quiet_then (C := fun w' => ∃ n, w' = wr.drewN n) 0 6 1 _ (by kernel_rfl) rfl (by kernel_rfl) (by kernel_rfl) ⟨1, rfl⟩ ?_
      simp only [List.take_succ_cons, List.take_zero, List.drop_zero]
      repeat (quiet_step (with_reducible exact Calls.quiet_of_same (HCut.out _)))
      refine wpQuiet_nil ?_
      rintro f _ ⟨nq, rfl⟩
      refine wpAny_ready (rs := [6]) (by kernel_rfl) (by simp) ?_
      refine AllReady.cons rfl (fun K hK => ?_) AllReady.nil
      refine step_copyG _ rfl (some 14) rfl (.tmp 10) (.tmp 13) rfl g3 (4 * k) 4 4 _ _ _ (by rw [Nat.mul_comm]; rfl) rfl (HY.out nq) (HA.out.drewN nq) (cut4_len xs k (by rw [HL.out]; omega)) (by rw [filled_len, HL.out]; omega) fun w3 A3 B3 => hK _ _ ?_
      rw [filled_cut xs k (by rw [HL.out]; omega)] at A3
      have HA3 : Hid (Ar w3 g3 0 .u8 (filled xs (4 * (k + 1)))) := A3
      have HB3 : Hid (Below g3 w1 w3) := (below_drewN HB.out nq).trans B3
      clear A3 B3
      simp only [Act.put, List.setIfInBounds_toArray, List.set_cons_zero, List.set_cons_succ]
      refine wpAny_done (by kernel_rfl) ?_ _
      go_wp2
      go_roundw
      case rel => exact ⟨k + 1, by omega, by go_num, HA3.out, HB3.out⟩
      case measure => simp [intOf]; omega
    · have hk4 : k = 4 := by omega
      subst hk4
      rw [show 4 * 4 = 16 from rfl, HF.out.2] at hA
      have HA : Hid (Ar wr g3 0 .u8 xs) := hA
      have D1 : Hid (Ar wr w.heap.size 0 .u8 z16) := HA1.out.below hB o1
      clear hA
      go_wp2_with (first
        | (refine load_lawN _ rfl (.tmp 3) 66 rfl .u8 xs g3 0 rfl HA.out 4 16 57 Try.underlying66 i_st HL.out ?_)
        | (refine store_lawF _ rfl (.tmp 2) (.tmp 16) 66 rfl .u8 z16 xs w.heap.size rfl rfl D1.out 16 i_st z16_len HL.out ?_; intro w7 A7 B7))
      refine bodyPost_ret (v := .agg (ints .u8 xs)) (results_arN rfl _ _ w.heap.size 0 .u8 xs rfl A7 4 16 57 Try.underlying66 i_st HL.out) rfl ⟨rfl, ?_⟩
      exact (BW.trans (hB.mono (by omega))).trans B7
end Go.Proofs.Ytijadglmbopboaa

/- What aes' Expand answers. No claim of its own. -/
namespace Go.Proofs.Ytijadglmbopboaa
open Go.RowKit

theorem info_u32G : (Try.prog.info? 70).map (fun i => (i.zero, i.size, i.bytes)) = some (some (.int .u32 0), 1, 4) := by kernel_rfl
theorem i_u32 : (Try.prog.info? 70).map (·.size) = some 1 := by kernel_rfl
theorem und_words : Try.prog.underlying 62 = some (.slice (Try.prog.elem 62)) := by kernel_rfl
theorem elem_words : Try.prog.elem 62 = 70 := by kernel_rfl
theorem run_size_u32G (w : World) : (sizeOf 70).run Try.prog w = .ok 1 w := by
  obtain ⟨i0, hi, hz0, hz1, hz2⟩ := info_parts info_u32G
  simp [sizeOf, typeInfo, hi, hz1]

/-- 'make([]uint32, n)': n noughts in a block of their own -/
theorem make_lawW {ops : Array Oper} {rest : List Oper} {o : Oper} {a : Act} {Q : Exit → Act → World → Prop} (w : World) (hg : o.guard = none) (l c : Operand) (hop : o.op = Op.makeSlice 62 l c)
    (L : Int) (n : Nat) (hl : a.eval l = .int .i64 L) (hc : a.eval c = .int .i64 L) (hL : L = (n : Int)) (hn : n ≤ 1099511627776)
    (hK : ∀ w', Ar w' w.heap.size 0 .u32 (List.replicate n 0) → Below w.heap.size w w' → w.heap.size < w'.heap.size → wpList Try.prog ops Q rest (a.put o.dst (.slice (some ⟨w.heap.size, 0, none⟩) n n)) w') :
    wpList Try.prog ops Q (o :: rest) a w := by
  obtain ⟨i0, hi, hz0, hz1, hz2⟩ := info_parts info_u32G
  refine wpList_make_full w hg l c 62 hop w.heap.size 70 i0 (.int .u32 0) 1 Try.underlying62 hi hz0 hz1 .i64 .i64 L L n hl hc hL hL (by rw [hz2]; omega) (by simp only [maxLen]; omega) (Nat.le_refl _) fun w' h1 h2 => ?_
  have hlt : w.heap.size < w'.heap.size := (h1.lt w.heap.size rfl).2
  refine hK w' ?_ ((Below.refl _ w).grown h2 (Nat.le_refl _) (fun k hk => by cases hk)) hlt
  have e : (madeCells (Value.int .u32 0).cells (n * 1)).toList = (List.replicate n (0 : Int)).map (Value.int .u32) := by
    rw [Nat.mul_one]
    show (madeCells #[Value.int .u32 0] n).toList = _
    rw [toList_madeCells_one]; simp
  rw [e] at h1
  refine Ar.mk fun i hi => ?_
  rw [Nat.zero_add]
  have hi' : i < n := by simpa using hi
  refine ⟨?_, h1.frozenAt i⟩
  rw [h1.cellAt i (by omega)]
  simp [gb, List.getD, hi']

section
variable {ops : Array Oper} {C : World → Prop} {K : Act → Prop} {o : Oper} {a : Act}
/-- the address of a word of a slice -/
theorem q_idxW (hw : Region.wanted o (yielded ops a.tmps) = true) (d : Option Tmp) (hd : o.dst = d) (x y : Operand) (hop : o.op = Op.indexAddr 62 x y) (b off n cap i : Nat) (hx : a.eval x = .slice (some ⟨b, off, none⟩) n cap) (hy : a.eval y = .int .i64 i) (hi : i < n)
    (q : Nat) (hq : q = off + i) (hK : K (a.put d (.pointer (some ⟨b, q, none⟩)))) :
    if Region.wanted o (yielded ops a.tmps) = true then o.quiet Try.prog a C K else K (a.put o.dst undef) := by
  refine q_val hw d hd _ (fun w _ => ?_) hK
  subst hq
  have hr : (Instr.indexAt 62 (.slice (some ⟨b, off, none⟩) n cap) (.int .i64 (i : Int))).run Try.prog w = .ok (.pointer (some ⟨b, off + i, none⟩)) w := by
    rw [run_indexAt_slice _ _ _ _ _ _ _ und_words, if_pos (by omega), elem_words, run_size_u32G]
    simp [Result.andThen, Addr.add]
  unfold execOp
  simp only [hop, hx, hy, Sem.run_bind, Sem.run_pure, Result.andThen_ok, hr]
end

/-- the first k words -/
def prw (key : List Int) (k : Nat) : List Int := (List.range 60).map fun t => if t < k then (wn key t : Int) else 0
theorem prw_len (key : List Int) (k : Nat) : (prw key k).length = 60 := by simp [prw]
theorem gb_prw (key : List Int) (k t : Nat) (h : t < 60) : gb (prw key k) t = if t < k then (wn key t : Int) else 0 := range_gb _ _ _ h
theorem prw_zero (key : List Int) : prw key 0 = List.replicate 60 0 := rfl
theorem prw_set (key : List Int) (k : Nat) : (prw key k).set k (wn key k : Int) = prw key (k + 1) := ext_gb (by simp [prw]) fun t ht => by
  rw [List.length_set, prw_len] at ht
  rw [gb_set _ _ _ _ (by rw [prw_len]; exact ht), gb_prw _ _ _ ht, gb_prw _ _ _ ht]
  by_cases e : k = t
  · subst e; simp
  · rw [if_neg e]
    by_cases h : t < k
    · rw [if_pos h, if_pos (by omega)]
    · rw [if_neg h, if_neg (by omega)]

set_option linter.unusedSimpArgs false in
set_option maxRecDepth 20000 in
set_option maxHeartbeats 4000000 in
theorem exp_any (v : Value) (key : List Int) (w : World) (hv : Byt w v key) (hl : key.length = 32) :
    Calls Try.prog 36 #[v] w fun e w' => ∃ g, e = .returned (.tuple #[.slice (some ⟨g, 0, none⟩) 60 60, .int .i64 0]) ∧ Ar w' g 0 .u32 (prw key 60) ∧ w.heap.size ≤ g ∧ Below w.heap.size w w' := by
  have HX : Hid (AllB key) := hv.all
  obtain ⟨ao, ca, rfl, ha1, ha2, ha3, -, ha5⟩ := hv
  obtain ⟨bb, bo, rfl, hcell⟩ := ha5 (by omega)
  have HC : Hid (∀ t, t < key.length → w.cell? ⟨bb, bo + t, none⟩ = some (.int .u8 (gb key t))) := hcell
  have HL : Hid (key.length = 32) := hl
  have hbw : bb < w.heap.size := World.block_lt_of_cell? w _ (hcell 0 (by omega))
  have HWL : Hid (∀ i, wn key i < 4294967296) := wn_lt key hl ha3
  have HWE : Hid (∀ i, 8 ≤ i → wn key i = wn key (i - 8) ^^^ stn i (wn key (i - 1))) := fun i hi => wn_eq key hl ha3 i hi
  have HWF : Hid (∀ i, i < 8 → num (last8 (cut4 key i)) = (wn key i : Int)) := fun i hi => by
    rw [num4 _ (cut4_wd key i ha3 (by omega)), wn_first key i hi]
  rw [hl] at ha1 ⊢
  clear hcell ha5 hl ha3
  go_enter Try.func36, Try.ntmps36
  go_wp2_with (at_make; refine make_lawW _ rfl _ _ rfl 60 60 rfl rfl rfl (by omega) ?_; intro w1 A1 B1 s1; have HA1 : Hid (Ar w1 w.heap.size 0 .u32 (List.replicate 60 0)) := A1; clear A1)
  generalize hg0 : w.heap.size = g0 at *
  go_loopw [11] (fun i wr => ∃ k : Nat, k ≤ 8 ∧ i = .int .i64 k ∧ Ar wr g0 0 .u32 (prw key k) ∧ Below g0 w wr) (fun i _ => 8 - (intOf i).toNat)
  case atStart => exact ⟨0, Nat.zero_le _, rfl, by rw [prw_zero]; exact HA1.out, B1⟩
  case round =>
    obtain ⟨k, hk, rfl, hA, hB⟩ := hrel
    have k0 : (0 : Int) ≤ (k : Int) := by omega
    have q1 : IntKind.i64.wrap (k : Int) = k := by rw [IntKind.wrap_i64]; omega
    by_cases hlt : k < 8
    · have k1 : (k : Int) < 8 := by omega
      have k60 : (k : Int) < 60 := by omega
      have HCut : Hid (∀ w0, Calls Try.prog 60 #[.slice (some ⟨bb, bo, none⟩) 32 ca, .int .i64 k] w0 fun e w' => e = .returned (.slice (some ⟨bb, bo + 4 * k, none⟩) 4 4) ∧ w' = w0) := fun w0 => cut_any bb bo 32 ca k w0 (by omega) ha1 (by omega)
      have HY : Byt wr (.slice (some ⟨bb, bo + 4 * k, none⟩) 4 4) (cut4 key k) := by
        have hln := cut4_len key k (by rw [HL.out]; omega)
        refine ⟨some ⟨bb, bo + 4 * k, none⟩, 4, by rw [hln], by omega, by omega, cut4_all key k HX.out, (by intro h; cases h), fun _ => ⟨bb, bo + 4 * k, rfl, fun t ht => ?_⟩⟩
        have c := HC.out (4 * k + t) (by rw [HL.out]; omega)
        rw [cut4_gb _ _ _ (by omega), Nat.add_assoc, hB.cell hbw]
        exact c
      have HN : Hid (Calls Try.prog 59 #[.slice (some ⟨bb, bo + 4 * k, none⟩) 4 4] wr fun e w' => e = .returned (.int .u64 (wn key k)) ∧ w' = wr) := by
        have := num_any _ _ wr HY
        rw [HWF.out k hlt] at this
        exact this
      have u1 : IntKind.u32.wrap (wn key k : Int) = (wn key k : Int) := by have := HWL.out k; rw [IntKind.wrap_u32]; omega
      have c3 := hA.cell0 k (by rw [prw_len]; omega)
      have c4 := hA.free0 k (by rw [prw_len]; omega)
      have hA2 : Hid (Ar (wr.setCell ⟨g0, k, none⟩ (.int .u32 (wn key k : Int))) g0 0 .u32 (prw key (k + 1))) := by
        have h := hA.set0 k (by rw [prw_len]; omega) (wn key k : Int)
        rw [prw_set] at h
        exact h
      have hB2 : Hid (Below g0 w (wr.setCell ⟨g0, k, none⟩ (.int .u32 (wn key k : Int)))) := hB.setCell (Nat.le_refl _) _
      clear HY hA
      generalize wn key k = x at *
      go_wp2_with (first
        | (go_at_call 59; refine (HN.out).mono ?_; rintro e w2 ⟨rfl, hw⟩; obtain rfl := hw.symm)
        | (go_at_call 60; refine (HCut.out _).mono ?_; rintro e w2 ⟨rfl, hw⟩; obtain rfl := hw.symm))
      go_roundw
      case rel => exact ⟨k + 1, by omega, by go_num, hA2.out, hB2.out⟩
      case measure => simp [intOf]; omega
    · have hk8 : k = 8 := by omega
      subst hk8
      have HA8 : Hid (Ar wr g0 0 .u32 (prw key 8)) := hA
      clear hA
      go_wp2
      go_loopw [6] (fun i wr => ∃ k : Nat, 8 ≤ k ∧ k ≤ 60 ∧ i = .int .i64 k ∧ Ar wr g0 0 .u32 (prw key k) ∧ Below g0 w wr) (fun i _ => 60 - (intOf i).toNat)
      case atStart => exact ⟨8, Nat.le_refl _, by omega, rfl, HA8.out, hB⟩
      case round =>
        obtain ⟨k, hk8, hk, rfl, hA, hB⟩ := hrel
        have k0 : (0 : Int) ≤ (k : Int) := by omega
        have q1 : IntKind.i64.wrap (k : Int) = k := by rw [IntKind.wrap_i64]; omega
        by_cases hlt : k < 60
        · have hgw : g0 < wr.heap.size := hA.lt (by rw [prw_len]; omega)
          obtain ⟨j8, hj8⟩ : ∃ j, j = k - 8 := ⟨_, rfl⟩
          obtain ⟨j1, hj1⟩ : ∃ j, j = k - 1 := ⟨_, rfl⟩
          have l8 : j8 < 60 := by omega
          have l1 : j1 < 60 := by omega
          have t8 : (k : Int) - 8 = (j8 : Int) := by omega
          have t1 : (k : Int) - 1 = (j1 : Int) := by omega
          have w8 : IntKind.i64.wrap (j8 : Int) = j8 := by rw [IntKind.wrap_i64]; omega
          have w1' : IntKind.i64.wrap (j1 : Int) = j1 := by rw [IntKind.wrap_i64]; omega
          have C8 : Hid (∀ w', Below wr.heap.size wr w' → w'.cell? ⟨g0, j8, none⟩ = some (.int .u32 (wn key j8 : Int))) := fun w' h => by
            have c := (hA.below h hgw).cell0 j8 (by rw [prw_len]; omega)
            rw [gb_prw _ _ _ l8, if_pos (by omega)] at c
            exact c
          have C1 : Hid (∀ w', Below wr.heap.size wr w' → w'.cell? ⟨g0, j1, none⟩ = some (.int .u32 (wn key j1 : Int))) := fun w' h => by
            have c := (hA.below h hgw).cell0 j1 (by rw [prw_len]; omega)
            rw [gb_prw _ _ _ l1, if_pos (by omega)] at c
            exact c
          have HST : Hid (∀ w', Below wr.heap.size wr w' → Calls Try.prog 61 #[.int .u32 (wn key j1 : Int), .int .i64 (k : Int)] w' fun e w'' => e = .returned (.int .u32 (stn k (wn key j1) : Int)) ∧ Below wr.heap.size wr w'') := fun w' h =>
            (stir_any _ k w' (HWL.out j1) hk8 hlt).mono fun e w'' h' => ⟨h'.1, h.trans (h'.2.mono h.size)⟩
          have hz0 : wn key k = wn key j8 ^^^ stn k (wn key j1) := by have := HWE.out k hk8; rw [← hj8, ← hj1] at this; exact this
          have st32 : stn k (wn key j1) < 4294967296 := by
            have h1 := HWL.out j1
            have h2 := wsum_lt (rl8 (wn key j1)) 4
            have h3 := wsum_lt (wn key j1) 4
            have h4 := pw_lt 2 (k / 8 - 1)
            unfold stn
            split
            · exact Nat.xor_lt_two_pow (n := 32) (by omega) (by omega)
            · split <;> omega
          have HZ : Hid (bits .xor .u32 (wn key j8 : Int) (stn k (wn key j1) : Int) = (wn key k : Int)) := by
            show _ = _
            rw [u32_xor_nat _ _ (HWL.out j8) st32, hz0]
          have HA : Hid (Ar wr g0 0 .u32 (prw key k)) := hA
          have HSet : Hid ((prw key k).set k (wn key k : Int) = prw key (k + 1)) := prw_set key k
          have HB : Hid (Below g0 w wr) := hB
          clear hA hB hz0 st32 hj8 hj1
          generalize wn key k = z at *
          generalize stn k (wn key j1) = s1 at *
          generalize wn key j1 = x1 at *
          generalize wn key j8 = x8 at *
          have k60 : (k : Int) < 60 := by omega
          go_wp2
          refine wp_region_any (by kernel_rfl) ?_
          refine wpAny_quiet_then (C := fun w' => Below wr.heap.size wr w') 0 16 1 _ (by kernel_rfl) rfl (by kernel_rfl) (by kernel_rfl) (Below.refl _ _).drew ?_
          simp only [List.take_succ_cons, List.take_zero, List.drop_zero]
          refine wpQuiet_step (fun K hK => ?_)
          refine q_val (by rfl) (some 27) rfl (.slice (some ⟨g0, 0, none⟩) 60 60) (fun w' _ => by rfl) (hK _ ?_)
          simp only [Act.put, List.setIfInBounds_toArray, List.set_cons_zero, List.set_cons_succ]
          clear hK K
          refine wpQuiet_step (fun K hK => ?_)
          refine q_val (by rfl) (some 28) rfl (.int .i64 (k : Int)) (fun w' _ => by rfl) (hK _ ?_)
          simp only [Act.put, List.setIfInBounds_toArray, List.set_cons_zero, List.set_cons_succ]
          clear hK K
          refine wpQuiet_step (fun K hK => ?_)
          refine q_val (by rfl) (some 29) rfl (.slice (some ⟨g0, 0, none⟩) 60 60) (fun w' _ => by rfl) (hK _ ?_)
          simp only [Act.put, List.setIfInBounds_toArray, List.set_cons_zero, List.set_cons_succ]
          clear hK K
          refine wpQuiet_step (fun K hK => ?_)
          refine q_val (by rfl) (some 30) rfl (.int .i64 (k : Int)) (fun w' _ => by rfl) (hK _ ?_)
          simp only [Act.put, List.setIfInBounds_toArray, List.set_cons_zero, List.set_cons_succ]
          clear hK K
          refine wpQuiet_step (fun K hK => ?_)
          refine q_val (by rfl) (some 31) rfl (.int .i64 (j8 : Int)) (fun w' _ => by go_simp) (hK _ ?_)
          simp only [Act.put, List.setIfInBounds_toArray, List.set_cons_zero, List.set_cons_succ]
          clear hK K
          refine wpQuiet_step (fun K hK => ?_)
          refine q_idxW (by rfl) (some 32) rfl (.tmp 29) (.tmp 31) rfl g0 0 60 60 j8 rfl rfl l8 j8 (by omega) (hK _ ?_)
          simp only [Act.put, List.setIfInBounds_toArray, List.set_cons_zero, List.set_cons_succ]
          clear hK K
          refine wpQuiet_step (fun K hK => ?_)
          refine q_get (by rfl) (some 33) rfl (.tmp 32) 70 rfl .u32 (x8 : Int) g0 j8 rfl Try.underlying70 C8.out (hK _ ?_)
          simp only [Act.put, List.setIfInBounds_toArray, List.set_cons_zero, List.set_cons_succ]
          clear hK K
          refine wpQuiet_step (fun K hK => ?_)
          refine q_val (by rfl) (some 34) rfl (.slice (some ⟨g0, 0, none⟩) 60 60) (fun w' _ => by rfl) (hK _ ?_)
          simp only [Act.put, List.setIfInBounds_toArray, List.set_cons_zero, List.set_cons_succ]
          clear hK K
          refine wpQuiet_step (fun K hK => ?_)
          refine q_val (by rfl) (some 35) rfl (.int .i64 (k : Int)) (fun w' _ => by rfl) (hK _ ?_)
          simp only [Act.put, List.setIfInBounds_toArray, List.set_cons_zero, List.set_cons_succ]
          clear hK K
          refine wpQuiet_step (fun K hK => ?_)
          refine q_val (by rfl) (some 36) rfl (.int .i64 (j1 : Int)) (fun w' _ => by go_simp) (hK _ ?_)
          simp only [Act.put, List.setIfInBounds_toArray, List.set_cons_zero, List.set_cons_succ]
          clear hK K
          refine wpQuiet_step (fun K hK => ?_)
          refine q_idxW (by rfl) (some 37) rfl (.tmp 34) (.tmp 36) rfl g0 0 60 60 j1 rfl rfl l1 j1 (by omega) (hK _ ?_)
          simp only [Act.put, List.setIfInBounds_toArray, List.set_cons_zero, List.set_cons_succ]
          clear hK K
          refine wpQuiet_step (fun K hK => ?_)
          refine q_get (by rfl) (some 38) rfl (.tmp 37) 70 rfl .u32 (x1 : Int) g0 j1 rfl Try.underlying70 C1.out (hK _ ?_)
          simp only [Act.put, List.setIfInBounds_toArray, List.set_cons_zero, List.set_cons_succ]
          clear hK K
          refine wpQuiet_step (fun K hK => ?_)
          refine q_val (by rfl) (some 39) rfl (.int .i64 (k : Int)) (fun w' _ => by rfl) (hK _ ?_)
          simp only [Act.put, List.setIfInBounds_toArray, List.set_cons_zero, List.set_cons_succ]
          clear hK K
          refine wpQuiet_step (fun K hK => ?_)
          refine q_call (by rfl) (some 40) rfl 61 #[.tmp 38, .tmp 39] #[70, 3] rfl (fun q w' => by rfl) #[.int .u32 (x1 : Int), .int .i64 (k : Int)] (by simp only [List.map_toArray, List.map_cons, List.map_nil]; rfl) (.int .u32 (s1 : Int)) HST.out (hK _ ?_)
          simp only [Act.put, List.setIfInBounds_toArray, List.set_cons_zero, List.set_cons_succ]
          clear hK K
          refine wpQuiet_step (fun K hK => ?_)
          refine q_val (by rfl) (some 41) rfl (.int .u32 (z : Int)) (fun w' _ => by (have hz := HZ.out; go_simp)) (hK _ ?_)
          simp only [Act.put, List.setIfInBounds_toArray, List.set_cons_zero, List.set_cons_succ]
          clear hK K
          refine wpQuiet_step (fun K hK => ?_)
          refine q_idxW (by rfl) (some 42) rfl (.tmp 27) (.tmp 28) rfl g0 0 60 60 k rfl rfl hlt k (by omega) (hK _ ?_)
          simp only [Act.put, List.setIfInBounds_toArray, List.set_cons_zero, List.set_cons_succ]
          clear hK K
          refine wpQuiet_nil ?_
          intro f w3 B3
          have A1 := HA.out.below B3 hgw
          have A2 := A1.set0 k (by rw [prw_len]; omega) (z : Int)
          rw [HSet.out] at A2
          have B2' : Below g0 w (w3.setCell ⟨g0, k, none⟩ (.int .u32 (z : Int))) := (HB.out.trans (B3.mono (by omega))).setCell (Nat.le_refl _) _
          refine wpAny_ready (rs := [16]) (by kernel_rfl) (by simp) ?_
          refine AllReady.cons rfl (fun K hK => ?_) AllReady.nil
          refine step_set _ rfl none rfl (.tmp 42) (.tmp 41) 70 rfl .u32 (z : Int) g0 k rfl rfl (by rw [A1.cell0 _ (by rw [prw_len]; omega)]; rfl) (A1.free0 _ (by rw [prw_len]; omega)) i_u32 (hK _ _ ?_)
          simp only [Act.put, List.setIfInBounds_toArray, List.set_cons_zero, List.set_cons_succ]
          have HA6 : Hid (Ar (w3.setCell ⟨g0, k, none⟩ (.int .u32 (z : Int))) g0 0 .u32 (prw key (k + 1))) := A2
          have HB6 : Hid (Below g0 w (w3.setCell ⟨g0, k, none⟩ (.int .u32 (z : Int)))) := B2'
          clear A1 A2 B2' B3
          generalize w3.setCell ⟨g0, k, none⟩ (.int .u32 (z : Int)) = w6 at *
          refine wpAny_done (by kernel_rfl) ?_ _
          go_wp2
          go_roundw
          case rel => exact ⟨k + 1, by omega, by omega, by go_num, HA6.out, HB6.out⟩
          case measure => simp [intOf]; omega
        · have hk60 : k = 60 := by omega
          subst hk60
          go_wp2
          go_ret2
          exact ⟨g0, rfl, hA, by omega, by rw [hg0]; exact hB⟩
end Go.Proofs.Ytijadglmbopboaa

