/- AES with keys of 32 bytes, on lists of bytes: a key's words, rounds, encrypting and decrypting; that each undoes the other. No claim of its own. -/
import Derived.Test.YtjiddmgnkldmkaaSProg
import Derived.Test.YtjiddmgnkldmkaaXor
import Derived.Test.YtjiddmgnkldmkaaFMixM
namespace Go.Proofs.Ytjiddmgnkldmkaa
open Go.RowKit

/-- sixteen bytes -/
def Blk (b : List Int) : Prop := b.length = 16 ∧ AllB b
theorem range_gb (f : Nat → Int) (n t : Nat) (h : t < n) : gb ((List.range n).map f) t = f t := by simp [gb, List.getD, h]

/-! ### rows shifted -/
def shi (i by_ : Nat) : Nat := 4 * ((i / 4 + by_ * (i % 4)) % 4) + i % 4
def shl16 (b : List Int) (by_ : Nat) : List Int := (List.range 16).map fun i => gb b (shi i by_)
theorem shl16_len (b : List Int) (n : Nat) : (shl16 b n).length = 16 := by simp [shl16]
theorem shl16_gb (b : List Int) (n t : Nat) (h : t < 16) : gb (shl16 b n) t = gb b (shi t n) := range_gb _ _ _ h
theorem shl16_all (b : List Int) (n : Nat) (h : AllB b) : AllB (shl16 b n) := allB_mem fun x hx => by
  obtain ⟨i, _, rfl⟩ := List.mem_map.1 hx
  exact h _
theorem shl16_blk (b : List Int) (n : Nat) (h : Blk b) : Blk (shl16 b n) := ⟨shl16_len b n, shl16_all b n h.2⟩
theorem shi_lt (i n : Nat) : shi i n < 16 := by unfold shi; omega
theorem shi_31 : ∀ i, i < 16 → shi (shi i 3) 1 = i := by decide
theorem shi_13 : ∀ i, i < 16 → shi (shi i 1) 3 = i := by decide
theorem shl_31 (b : List Int) (h : b.length = 16) : shl16 (shl16 b 1) 3 = b := ext_gb (by rw [shl16_len, h]) fun t ht => by
  rw [shl16_len] at ht
  rw [shl16_gb _ _ _ ht, shl16_gb _ _ _ (shi_lt t 3), shi_31 t ht]
theorem shl_13 (b : List Int) (h : b.length = 16) : shl16 (shl16 b 3) 1 = b := ext_gb (by rw [shl16_len, h]) fun t ht => by
  rw [shl16_len] at ht
  rw [shl16_gb _ _ _ ht, shl16_gb _ _ _ (shi_lt t 1), shi_13 t ht]

/-! ### bytes put for -/
theorem tab_allB {tab : List Int} (h : tab.all (fun x => decide (0 ≤ x ∧ x ≤ 255)) = true) : AllB tab := allB_mem fun x hx => by
  simpa using List.all_eq_true.1 h x hx
theorem pAll : AllB ptab := tab_allB (by decide +kernel)
theorem bAll : AllB btab := tab_allB (by decide +kernel)
theorem looked_blk (tab b : List Int) (ht : AllB tab) (h : b.length = 16) : Blk (looked tab b) := ⟨by rw [looked_len, h], looked_all tab b ht⟩
theorem looked_bp (b : List Int) (h : AllB b) : looked btab (looked ptab b) = b := ext_gb (by rw [looked_len, looked_len]) fun t ht => by
  rw [looked_len, looked_len] at ht
  rw [looked_gb _ _ _ (by rw [looked_len]; exact ht), looked_gb _ _ _ ht]
  have hb := h t
  have h8 : (gb b t).toNat < 256 := by omega
  rw [gb_p _ h8, Int.toNat_natCast, gb_b _ (sb_lt _ h8), sk_sb _ h8]
  omega
theorem looked_pb (b : List Int) (h : AllB b) : looked ptab (looked btab b) = b := ext_gb (by rw [looked_len, looked_len]) fun t ht => by
  rw [looked_len, looked_len] at ht
  rw [looked_gb _ _ _ (by rw [looked_len]; exact ht), looked_gb _ _ _ ht]
  have hb := h t
  have h8 : (gb b t).toNat < 256 := by omega
  rw [gb_b _ h8, Int.toNat_natCast, gb_p _ (sk_lt _ h8), sb_sk _ h8]
  omega

/-! ### columns mixed -/
def colOf (b : List Int) (c : Nat) : List Nat := [(gb b (4 * c)).toNat, (gb b (4 * c + 1)).toNat, (gb b (4 * c + 2)).toNat, (gb b (4 * c + 3)).toNat]
theorem colOf_col (b : List Int) (c : Nat) (h : AllB b) : Col (colOf b c) := by
  have h0 := h (4 * c)
  have h1 := h (4 * c + 1)
  have h2 := h (4 * c + 2)
  have h3 := h (4 * c + 3)
  exact col4 _ _ _ _ (by omega) (by omega) (by omega) (by omega)
theorem colOf_gn (b : List Int) (c i : Nat) (h : i < 4) : gn (colOf b c) i = (gb b (4 * c + i)).toNat := by
  match i, h with
  | 0, _ => rfl
  | 1, _ => rfl
  | 2, _ => rfl
  | 3, _ => rfl
def mixb (b : List Int) (ws : List Nat) : List Int := (List.range 16).map fun i => (gn (trn (colOf b (i / 4)) ws) (i % 4) : Int)
theorem mixb_len (b : List Int) (ws : List Nat) : (mixb b ws).length = 16 := by simp [mixb]
theorem mixb_gb (b : List Int) (ws : List Nat) (t : Nat) (h : t < 16) : gb (mixb b ws) t = (gn (trn (colOf b (t / 4)) ws) (t % 4) : Int) := range_gb _ _ _ h
theorem mixb_blk (b : List Int) (ws : List Nat) (hw : Col ws) : Blk (mixb b ws) := ⟨mixb_len b ws, allB_mem fun x hx => by
  obtain ⟨i, _, rfl⟩ := List.mem_map.1 hx
  have := (trn_col (colOf b (i / 4)) ws hw).2 (i % 4)
  omega⟩
theorem colOf_mixb (b : List Int) (ws : List Nat) (c : Nat) (h : c < 4) : colOf (mixb b ws) c = trn (colOf b c) ws := by
  have e : ∀ i, i < 4 → (gb (mixb b ws) (4 * c + i)).toNat = gn (trn (colOf b c) ws) i := fun i hi => by
    rw [mixb_gb b ws _ (by omega), show (4 * c + i) / 4 = c by omega, show (4 * c + i) % 4 = i by omega, Int.toNat_natCast]
  have e0 := e 0 (by omega)
  have e1 := e 1 (by omega)
  have e2 := e 2 (by omega)
  have e3 := e 3 (by omega)
  rw [Nat.add_zero] at e0
  unfold colOf at *
  rw [e0, e1, e2, e3]
  rfl
theorem mixb_back (b : List Int) (us vs : List Nat) (h : Blk b) (hb : ∀ l, Col l → trn (trn l us) vs = l) : mixb (mixb b us) vs = b := ext_gb (by rw [mixb_len, h.1]) fun t ht => by
  rw [mixb_len] at ht
  rw [mixb_gb _ _ _ ht, colOf_mixb b us _ (by omega), hb _ (colOf_col b _ h.2), colOf_gn b _ _ (by omega), show 4 * (t / 4) + t % 4 = t by omega]
  have := h.2 t
  omega
theorem mixb_um (b : List Int) (h : Blk b) : mixb (mixb b mixW) unmW = b := mixb_back b mixW unmW h unmix_mix
theorem mixb_mu (b : List Int) (h : Blk b) : mixb (mixb b unmW) mixW = b := mixb_back b unmW mixW h mix_unmix

/-! ### a key's words -/
/-- four bytes -/
def Wd (x : List Int) : Prop := x.length = 4 ∧ AllB x
def cut4 (key : List Int) (i : Nat) : List Int := (key.take (4 * i + 4)).drop (4 * i)
/-- what is xored to the word eight ahead -/
def mid (i : Nat) (x : List Int) : List Int :=
  if i % 8 = 0 then [xr (gb ptab (gb x 1).toNat) (pw 2 (i / 8 - 1) : Int), gb ptab (gb x 2).toNat, gb ptab (gb x 3).toNat, gb ptab (gb x 0).toNat]
  else if i % 8 = 4 then [gb ptab (gb x 0).toNat, gb ptab (gb x 1).toNat, gb ptab (gb x 2).toNat, gb ptab (gb x 3).toNat] else x
/-- the next word -/
def nxt (key : List Int) (ws : List (List Int)) (i : Nat) : List Int := if i < 8 then cut4 key i else xorl (ws.getD (i - 8) []) (mid i (ws.getD (i - 1) []))
/-- the first n words -/
def wds (key : List Int) : Nat → List (List Int)
  | 0 => []
  | n + 1 => wds key n ++ [nxt key (wds key n) n]
theorem wds_len (key : List Int) (n : Nat) : (wds key n).length = n := by
  induction n with
  | zero => rfl
  | succ n ih => simp [wds, ih]
/-- word i -/
def wd (key : List Int) (i : Nat) : List Int := nxt key (wds key i) i
theorem wds_get (key : List Int) (n i : Nat) (h : i < n) : (wds key n).getD i [] = wd key i := by
  induction n with
  | zero => omega
  | succ n ih =>
    rw [wds, List.getD_eq_getElem?_getD]
    by_cases h' : i < n
    · rw [List.getElem?_append_left (by rw [wds_len]; exact h'), ← List.getD_eq_getElem?_getD, ih h']
    · have : i = n := by omega
      subst this
      rw [List.getElem?_append_right (by rw [wds_len]; omega), wds_len]
      simp [wd]
theorem wd_eq (key : List Int) (i : Nat) : wd key i = if i < 8 then cut4 key i else xorl (wd key (i - 8)) (mid i (wd key (i - 1))) := by
  rw [wd, nxt]
  by_cases h : i < 8
  · rw [if_pos h, if_pos h]
  · rw [if_neg h, if_neg h, wds_get key i (i - 8) (by omega), wds_get key i (i - 1) (by omega)]
theorem wd4 (a b c d : Int) (ha : 0 ≤ a ∧ a ≤ 255) (hb : 0 ≤ b ∧ b ≤ 255) (hc : 0 ≤ c ∧ c ≤ 255) (hd : 0 ≤ d ∧ d ≤ 255) : Wd [a, b, c, d] := ⟨rfl, allB_mem fun x hx => by
  simp at hx
  rcases hx with rfl | rfl | rfl | rfl <;> assumption⟩
theorem mid_wd (i : Nat) (x : List Int) (h : Wd x) : Wd (mid i x) := by
  have hp : ∀ j, 0 ≤ gb ptab j ∧ gb ptab j ≤ 255 := pAll
  unfold mid
  by_cases h0 : i % 8 = 0
  · rw [if_pos h0]
    have := pw_lt 2 (i / 8 - 1)
    exact wd4 _ _ _ _ (xr_bd _ _ (hp _) (by omega)) (hp _) (hp _) (hp _)
  · rw [if_neg h0]
    by_cases h4 : i % 8 = 4
    · rw [if_pos h4]; exact wd4 _ _ _ _ (hp _) (hp _) (hp _) (hp _)
    · rw [if_neg h4]; exact h
theorem cut4_gb (key : List Int) (i t : Nat) (h : t < 4) : gb (cut4 key i) t = gb key (4 * i + t) := gb_cut key (4 * i) (4 * i + 4) t (by omega)
theorem cut4_wd (key : List Int) (i : Nat) (hk : AllB key) (h : 4 * i + 4 ≤ key.length) : Wd (cut4 key i) := ⟨by simp [cut4]; omega, allB_mem fun x hx => by
  obtain ⟨j, hj, rfl⟩ := mem_gb (List.mem_of_mem_take (List.mem_of_mem_drop hx))
  exact hk j⟩
theorem xorl_wd (x y : List Int) (hx : Wd x) (hy : Wd y) : Wd (xorl x y) := ⟨by rw [xorl_len _ _ (by rw [hx.1, hy.1]), hx.1], xorl_all _ _ (by rw [hx.1, hy.1]) hx.2 hy.2⟩
theorem wd_wd (key : List Int) (hk : key.length = 32) (ha : AllB key) (i : Nat) : Wd (wd key i) := by
  induction i using Nat.strongRecOn with
  | ind i ih =>
    rw [wd_eq]
    by_cases h : i < 8
    · rw [if_pos h]; exact cut4_wd key i ha (by omega)
    · rw [if_neg h]; exact xorl_wd _ _ (ih _ (by omega)) (mid_wd i _ (ih _ (by omega)))
/-- a round's key -/
def rk (key : List Int) (r : Nat) : List Int := wd key (4 * r) ++ wd key (4 * r + 1) ++ wd key (4 * r + 2) ++ wd key (4 * r + 3)
theorem rk_blk (key : List Int) (hk : key.length = 32) (ha : AllB key) (r : Nat) : Blk (rk key r) := by
  have h0 := wd_wd key hk ha (4 * r)
  have h1 := wd_wd key hk ha (4 * r + 1)
  have h2 := wd_wd key hk ha (4 * r + 2)
  have h3 := wd_wd key hk ha (4 * r + 3)
  refine ⟨by simp [rk, h0.1, h1.1, h2.1, h3.1], allB_mem fun x hx => ?_⟩
  simp only [rk, List.mem_append] at hx
  rcases hx with ((hx | hx) | hx) | hx
  · obtain ⟨j, _, rfl⟩ := mem_gb hx; exact h0.2 j
  · obtain ⟨j, _, rfl⟩ := mem_gb hx; exact h1.2 j
  · obtain ⟨j, _, rfl⟩ := mem_gb hx; exact h2.2 j
  · obtain ⟨j, _, rfl⟩ := mem_gb hx; exact h3.2 j

/-! ### rounds -/
theorem xorl_blk (x y : List Int) (hx : Blk x) (hy : Blk y) : Blk (xorl x y) := ⟨by rw [xorl_len _ _ (by rw [hx.1, hy.1]), hx.1], xorl_all _ _ (by rw [hx.1, hy.1]) hx.2 hy.2⟩
theorem xorl_bb (x y : List Int) (hx : Blk x) (hy : Blk y) : xorl (xorl x y) y = x := xorl_back x y (by rw [hx.1, hy.1]) hx.2
/-- mixing, in all rounds but the last -/
def mx (r : Nat) (b : List Int) : List Int := if r < 14 then mixb b mixW else b
def um (r : Nat) (b : List Int) : List Int := if r < 14 then mixb b unmW else b
theorem mx_blk (r : Nat) (b : List Int) (h : Blk b) : Blk (mx r b) := by unfold mx; split; exact mixb_blk _ _ mixW_col; exact h
theorem um_blk (r : Nat) (b : List Int) (h : Blk b) : Blk (um r b) := by unfold um; split; exact mixb_blk _ _ unmW_col; exact h
theorem um_mx (r : Nat) (b : List Int) (h : Blk b) : um r (mx r b) = b := by
  unfold um mx
  by_cases hr : r < 14
  · rw [if_pos hr, if_pos hr, mixb_um b h]
  · rw [if_neg hr, if_neg hr]
theorem mx_um (r : Nat) (b : List Int) (h : Blk b) : mx r (um r b) = b := by
  unfold um mx
  by_cases hr : r < 14
  · rw [if_pos hr, if_pos hr, mixb_mu b h]
  · rw [if_neg hr, if_neg hr]
/-- one round -/
def fw (key : List Int) (r : Nat) (b : List Int) : List Int := xorl (mx r (shl16 (looked ptab b) 1)) (rk key r)
def bw (key : List Int) (r : Nat) (b : List Int) : List Int := looked btab (shl16 (um r (xorl b (rk key r))) 3)
theorem bw_blk (key : List Int) (r : Nat) (b : List Int) : Blk (bw key r b) := looked_blk _ _ bAll (shl16_len _ _)
theorem fw_blk (key : List Int) (hk : key.length = 32) (ha : AllB key) (r : Nat) (b : List Int) (h : Blk b) : Blk (fw key r b) := xorl_blk _ _ (mx_blk r _ (shl16_blk _ _ (looked_blk _ _ pAll h.1))) (rk_blk key hk ha r)
theorem bw_fw (key : List Int) (hk : key.length = 32) (ha : AllB key) (r : Nat) (b : List Int) (h : Blk b) : bw key r (fw key r b) = b := by
  have h1 := looked_blk ptab b pAll h.1
  have h2 := shl16_blk _ 1 h1
  unfold bw fw
  rw [xorl_bb _ _ (mx_blk r _ h2) (rk_blk key hk ha r), um_mx r _ h2, shl_31 _ h1.1, looked_bp b h.2]
theorem fw_bw (key : List Int) (hk : key.length = 32) (ha : AllB key) (r : Nat) (b : List Int) (h : Blk b) : fw key r (bw key r b) = b := by
  have h1 := xorl_blk b _ h (rk_blk key hk ha r)
  have h2 := um_blk r _ h1
  have h3 := shl16_blk _ 3 h2
  unfold bw fw
  rw [looked_pb _ h3.2, shl_13 _ h2.1, mx_um r _ h1, xorl_bb _ _ h (rk_blk key hk ha r)]
/-- encrypting, behind r rounds -/
def enc (key b : List Int) : Nat → List Int
  | 0 => xorl b (rk key 0)
  | r + 1 => fw key (r + 1) (enc key b r)
/-- decrypting, behind k rounds -/
def dec (key b : List Int) : Nat → List Int
  | 0 => b
  | k + 1 => bw key (14 - k) (dec key b k)
def encr (key b : List Int) : List Int := enc key b 14
def decr (key b : List Int) : List Int := xorl (dec key b 14) (rk key 0)
theorem dec_blk (key b : List Int) (h : Blk b) (k : Nat) : Blk (dec key b k) := by
  cases k with
  | zero => exact h
  | succ k => exact bw_blk key _ _
theorem enc_blk (key : List Int) (hk : key.length = 32) (ha : AllB key) (b : List Int) (h : Blk b) (r : Nat) : Blk (enc key b r) := by
  induction r with
  | zero => exact xorl_blk _ _ h (rk_blk key hk ha 0)
  | succ r ih => exact fw_blk key hk ha _ _ ih
theorem encr_blk (key : List Int) (hk : key.length = 32) (ha : AllB key) (b : List Int) (h : Blk b) : Blk (encr key b) := enc_blk key hk ha b h 14
theorem decr_blk (key : List Int) (hk : key.length = 32) (ha : AllB key) (b : List Int) (h : Blk b) : Blk (decr key b) := xorl_blk _ _ (dec_blk key b h 14) (rk_blk key hk ha 0)
theorem dec_enc (key : List Int) (hk : key.length = 32) (ha : AllB key) (b : List Int) (h : Blk b) (k : Nat) (hk14 : k ≤ 14) : dec key (encr key b) k = enc key b (14 - k) := by
  induction k with
  | zero => rfl
  | succ k ih =>
    rw [dec, ih (by omega), show 14 - k = (14 - (k + 1)) + 1 by omega, enc, bw_fw key hk ha _ _ (enc_blk key hk ha b h _)]
theorem decr_encr (key : List Int) (hk : key.length = 32) (ha : AllB key) (b : List Int) (h : Blk b) : decr key (encr key b) = b := by
  unfold decr
  rw [dec_enc key hk ha b h 14 (by omega)]
  exact xorl_bb _ _ h (rk_blk key hk ha 0)
theorem enc_dec (key : List Int) (hk : key.length = 32) (ha : AllB key) (b : List Int) (h : Blk b) (r : Nat) (hr : r ≤ 14) : enc key (decr key b) r = dec key b (14 - r) := by
  induction r with
  | zero =>
    rw [enc, decr]
    exact xorl_bb _ _ (dec_blk key b h 14) (rk_blk key hk ha 0)
  | succ r ih =>
    have e := ih (by omega)
    rw [show 14 - r = (14 - (r + 1)) + 1 by omega, dec, show 14 - (14 - (r + 1)) = r + 1 by omega] at e
    rw [enc, e, fw_bw key hk ha _ _ (dec_blk key b h _)]
theorem encr_decr (key : List Int) (hk : key.length = 32) (ha : AllB key) (b : List Int) (h : Blk b) : encr key (decr key b) = b := enc_dec key hk ha b h 14 (by omega)
end Go.Proofs.Ytjiddmgnkldmkaa
