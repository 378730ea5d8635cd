/- P1.3, P1.4: for every list of bytes b of at most 2000 and every text s of at most 4000 bytes: octet.Hex(b) is two digits for each byte, 0 to 9, a to f, and octet.Unhex tells b of it again; octet.Unhex(s) is ErrForm and no bytes, if s has an odd length or another sign, else its bytes; where b or s is longer it is said that the program answers at all. -/
import Derived.Test.YtocihlnmajkceaaDoorCards
import Derived.Test.YtocihlnmajkceaaDoorTie
import Derived.Test.YtocihlnmajkceaaDoorSame
import Derived.Test.YtocihlnmajkceaaDoorLaw
import Derived.Test.YtocihlnmajkceaaDoorRefUnhex
namespace Go.Proofs.YtocihlnmajkceaaDoor.octetHexes
open Go.ChangeShapes Go.WideShapes Go.ChangeAt Go.RowKit Go.PlainAid

theorem gb_hexs : ∀ (xs : List Int) (i : Nat), i < xs.length → gb (hexs xs) (2 * i) = hd (gb xs i / 16) ∧ gb (hexs xs) (2 * i + 1) = hd (gb xs i % 16)
  | [], i, h => by simp at h
  | x :: xs, 0, _ => by simp [gb, hexs]
  | x :: xs, i + 1, h => by
    have ih := gb_hexs xs i (by simpa using h)
    have e : hexs (x :: xs) = hd (x / 16) :: hd (x % 16) :: hexs xs := by simp [hexs]
    have c : ∀ (a b : Int) (l : List Int) (n : Nat), gb (a :: b :: l) (n + 2) = gb l n := fun a b l n => by simp [gb, List.getD]
    have d : gb (x :: xs) (i + 1) = gb xs i := by simp [gb, List.getD]
    rw [e, show 2 * (i + 1) = 2 * i + 2 by omega, show 2 * i + 2 + 1 = 2 * i + 1 + 2 by omega, c, c, d]
    exact ih
theorem all_hexs (xs : List Int) (ha : AllB xs) : AllB (hexs xs) := allB_mem fun z hz => by
  obtain ⟨x, hx, hz'⟩ := List.mem_flatMap.1 hz
  obtain ⟨i, hi, rfl⟩ := mem_gb hx
  have := ha i
  simp at hz'
  rcases hz' with rfl | rfl <;> exact hd_bd _ (by omega)
theorem bt_str (A : List Int) (ha : AllB A) (i : Nat) (hi : i < A.length) : bt (strOfNums A) i = gb A i := by
  have hs : i < (strOfNums A).size := by rw [strOfNums_size]; exact hi
  have hb := ha i
  unfold bt
  rw [dif_pos hs]
  have e : (strOfNums A)[i] = UInt8.ofNat (gb A i).toNat := by
    show (strOfNums A).data[i] = _
    simp [strOfNums, gb, List.getD, hi]
  rw [e, UInt8.toNat_ofNat']
  omega
theorem good_hexs (xs : List Int) (ha : AllB xs) : Good (strOfNums (hexs xs)) ∧ vals (strOfNums (hexs xs)) = xs := by
  have hsz : (strOfNums (hexs xs)).size = 2 * xs.length := by rw [strOfNums_size, hexs_len]
  have ah := all_hexs xs ha
  have h1 : ∀ i, i < xs.length → dv (bt (strOfNums (hexs xs)) (2 * i)) = gb xs i / 16 := fun i hi => by
    have hb := ha i
    rw [bt_str _ ah _ (by rw [hexs_len]; omega), (gb_hexs xs i hi).1]
    obtain ⟨n, hn⟩ : ∃ n : Nat, gb xs i / 16 = n := ⟨(gb xs i / 16).toNat, by omega⟩
    rw [hn, dv_hd n (by omega)]
  have h2 : ∀ i, i < xs.length → dv (bt (strOfNums (hexs xs)) (2 * i + 1)) = gb xs i % 16 := fun i hi => by
    have hb := ha i
    rw [bt_str _ ah _ (by rw [hexs_len]; omega), (gb_hexs xs i hi).2]
    obtain ⟨n, hn⟩ : ∃ n : Nat, gb xs i % 16 = n := ⟨(gb xs i % 16).toNat, by omega⟩
    rw [hn, dv_hd n (by omega)]
  refine ⟨⟨by omega, fun i hi => ?_⟩, ext_gb (by rw [vals_len, hsz]; omega) fun t ht => ?_⟩
  · rw [hsz] at hi
    have hb := ha (i / 2)
    by_cases he : i % 2 = 0
    · rw [show i = 2 * (i / 2) by omega, h1 _ (by omega)]; omega
    · rw [show i = 2 * (i / 2) + 1 by omega, h2 _ (by omega)]; omega
  · rw [vals_len, hsz] at ht
    rw [vals_gb _ t (by rw [hsz]; exact ht)]
    have hb := ha t
    unfold hv
    rw [h1 t (by omega), h2 t (by omega)]
    omega

set_option maxHeartbeats 8000000 in
theorem walk (v : Value) (xs : List Int) (s : ByteArray) (w : World) (hb : Byt w v xs) (hs : s.size ≤ maxLen) (ht : Tab w) :
    Calls Tryd.prog 6 #[v, .string s] w fun e w' => e = .returned (.bool true) ∧ Below w.heap.size w w' := by
  have HB := hb
  have hms : s.size ≤ 9223372036854775807 := by simpa [maxLen] using hs
  clear hs
  obtain ⟨ao, cap, rfl, h1, h2, -, -, -⟩ := hb
  by_cases l1 : 2000 < (xs.length : Int)
  · go_enter Tryd.func6, Tryd.ntmps6
    go_wp2_with (go_at_call 7; refine (awake_any _ ht).mono ?_; rintro e w4 ⟨rfl, hb4⟩)
    go_ret
    exact ⟨rfl, hb4⟩
  · by_cases l2 : 4000 < (s.size : Int)
    · go_enter Tryd.func6, Tryd.ntmps6
      go_wp2_with (go_at_call 7; refine (awake_any _ ht).mono ?_; rintro e w4 ⟨rfl, hb4⟩)
      go_ret
      exact ⟨rfl, hb4⟩
    · obtain ⟨t, htx⟩ : ∃ t, t = strOfNums (hexs xs) := ⟨_, rfl⟩
      have GH : Hid (Good t ∧ vals t = xs) := by rw [htx]; exact good_hexs xs HB.all
      have TS : Hid (t.size ≤ 1048576) := by show _ ≤ _; rw [htx, strOfNums_size, hexs_len]; omega
      have TX : Hid (strOfNums (hexs xs) = t) := htx.symm
      clear htx
      go_enter Tryd.func6, Tryd.ntmps6
      go_wp2_with (first
        | (go_at_call 24; refine (hex_any _ xs _ HB (by omega) ht).mono ?_; rintro e w1 ⟨rfl, hb1⟩; rw [TX.out]; have hz1 := hb1.size)
        | (go_at_call 25; refine (rhex_any _ xs _ (HB.below hb1) (by omega)).mono ?_; rintro e w2 ⟨rfl, n2, rfl⟩; rw [TX.out]))
      have b2 : Below w.heap.size w (w1.drewN n2) := below_drewN hb1 n2
      have b2z := b2.size
      by_cases g : Good s
      · have G : Hid (Good s) := g
        clear g
        go_wp2_with (first
          | (go_at_call 24; refine (hex_any _ xs _ (HB.below b2) (by omega) (ht.below b2)).mono ?_; rintro e w3 ⟨rfl, hb3⟩; rw [TX.out]; have b3 : Below w.heap.size w w3 := b2.trans (hb3.mono b2z))
          | (go_at_call_of 26 (Value.string t); refine (unhex_any t _ (ht.below b3) TS.out).mono ?_; rintro e w4 ⟨v4, c4, rfl, hb4, hy4, -⟩; obtain ⟨rfl, B4⟩ := hy4 GH.out.1; rw [GH.out.2] at B4; clear hy4; have b4 : Below w.heap.size w w4 := b3.trans (hb4.mono b3.size))
          | (go_at_call_of 26 (Value.string s); refine (unhex_any s _ (ht.below b4) (by omega)).mono ?_; rintro e w5 ⟨v5, c5, rfl, hb5, hy5, -⟩; obtain ⟨rfl, B5⟩ := hy5 G.out; clear hy5; have b5 : Below w.heap.size w w5 := b4.trans (hb5.mono b4.size))
          | (go_at_call 27; refine (runhex_any s _ (by omega)).mono ?_; rintro e w6 ⟨v6, t6, rfl, hb6, hy6, -⟩; obtain ⟨rfl, B6⟩ := hy6 G.out; clear hy6; have b6 : Below w.heap.size w w6 := b5.trans (hb6.mono b5.size))
          | (go_at_call_of 8 v6; refine (same_any _ _ _ _ _ (B5.below hb6) B6).mono ?_; rintro e w7 ⟨rfl, n7, rfl⟩; rw [decide_eq_true rfl]; have b7 := below_drewN b6 n7)
          | (go_at_call_of 8 v4; refine (same_any _ _ _ xs xs (((B4.below hb5).below hb6).below (below_drewN (Below.refl _ _) n7)) (HB.below b7)).mono ?_; rintro e w8 ⟨rfl, n8, rfl⟩; rw [decide_eq_true rfl]; have b8 : Below w.heap.size w (w6.drewN (n7 + n8)) := below_drewN b6 (n7 + n8))
          | (go_at_call 7; refine (awake_any _ (ht.below b8)).mono ?_; rintro e w9 ⟨rfl, hb9⟩))
        go_ret
        exact ⟨rfl, b8.trans (hb9.mono b8.size)⟩
      · have G : Hid (¬ Good s) := g
        clear g
        go_wp2_with (first
          | (go_at_call 24; refine (hex_any _ xs _ (HB.below b2) (by omega) (ht.below b2)).mono ?_; rintro e w3 ⟨rfl, hb3⟩; rw [TX.out]; have b3 : Below w.heap.size w w3 := b2.trans (hb3.mono b2z))
          | (go_at_call_of 26 (Value.string t); refine (unhex_any t _ (ht.below b3) TS.out).mono ?_; rintro e w4 ⟨v4, c4, rfl, hb4, hy4, -⟩; obtain ⟨rfl, B4⟩ := hy4 GH.out.1; rw [GH.out.2] at B4; clear hy4; have b4 : Below w.heap.size w w4 := b3.trans (hb4.mono b3.size))
          | (go_at_call_of 26 (Value.string s); refine (unhex_any s _ (ht.below b4) (by omega)).mono ?_; rintro e w5 ⟨v5, c5, rfl, hb5, -, hn5⟩; obtain ⟨rfl, rfl⟩ := hn5 G.out; clear hn5; have b5 : Below w.heap.size w w5 := b4.trans (hb5.mono b4.size))
          | (go_at_call 27; refine (runhex_any s _ (by omega)).mono ?_; rintro e w6 ⟨v6, t6, rfl, hb6, -, hn6⟩; obtain rfl := hn6 G.out; clear hn6; have b6 : Below w.heap.size w w6 := b5.trans (hb6.mono b5.size))
          | (go_at_call_of 8 v4; refine (same_any _ _ _ xs xs ((B4.below hb5).below hb6) (HB.below b6)).mono ?_; rintro e w8 ⟨rfl, n8, rfl⟩; rw [decide_eq_true rfl]; have b8 : Below w.heap.size w (w6.drewN n8) := below_drewN b6 n8)
          | (go_at_call 7; refine (awake_any _ (ht.below b8)).mono ?_; rintro e w9 ⟨rfl, hb9⟩))
        go_ret
        exact ⟨rfl, b8.trans (hb9.mono b8.size)⟩

theorem params : ∀ t ∈ Tryd.f6.params.toList, Tryd.prog.readableRec t = true ∧ t < Tryd.prog.types.size := by
  rw [Tryd.params6]
  intro t ht
  simp at ht
  rcases ht with rfl | rfl
  · exact ⟨by kernel_rfl, of_decide_eq_true (by kernel_rfl)⟩
  · exact ⟨by kernel_rfl, of_decide_eq_true (by kernel_rfl)⟩

theorem contract (H : Type) (enc : TypeId × Value → H) (W : World) (base : Nat) (args : Array Value) (ds gs : List (DataW H)) (before : List MemPlace)
    (hval : ∀ (j : Nat) t v, Tryd.f6.params[j]? = some t → args[j]? = some v → Value.okWide Tryd.prog W .any base t v)
    (hW : DataW.Whole enc Tryd.prog Tryd.f6.params.toList Rows.octetHexesSpec.vars false W args.toList ds gs before) (hL : laidMetH Tryd.prog Rows.octetHexesRow.laid W) :
    Calls Tryd.prog 6 args W fun e W' => ∃ v, e = .returned v ∧ Rows.octetHexesSpec.post enc Tryd.prog Tryd.f6 false true false false W args v W' := by
  have hW' := hW
  obtain ⟨p, q, hA0, hV, rfl, hfz, hnd⟩ := hW
  have hA : DataW.TrodAll enc Tryd.prog W 0 (fun _ => true) true Tryd.f6.params.toList args.toList ds p := hA0
  rw [Tryd.params6] at hA hval
  obtain ⟨v0, v1, d0, d1, p0, p1, rfl, rfl, rfl, h0, h1⟩ := trodAll_two hA
  obtain ⟨rfl, rfl⟩ := trodVars_none hV
  obtain ⟨xs0, b0⟩ := byt_open (hval 0 23 v0 rfl rfl) h0
  obtain ⟨s1, rfl, rfl, rfl, hs1⟩ := Go.ChangeMaps.open_string Tryd.underlying9 (hval 1 9 v1 rfl rfl) h1
  clear hA0
  refine (walk v0 xs0 s1 W b0 hs1 (table hL)).mono fun e W' ⟨he, hg⟩ => ?_
  subst he
  exact ⟨_, rfl, post_law rfl (by kernel_rfl) params rfl rfl rfl hW' hg⟩

theorem laid_met (os : Os) : laidMet Tryd.prog Rows.octetHexesRow.laid (({ World.holding Tryd.prog os ⟨#[], #[], []⟩ with heap := (World.holding Tryd.prog os ⟨#[], #[], []⟩).heap.modify 0 fun | .cells _ t frozen => .cells #[.int .u8 48, .int .u8 49, .int .u8 50, .int .u8 51, .int .u8 52, .int .u8 53, .int .u8 54, .int .u8 55, .int .u8 56, .int .u8 57, .int .u8 97, .int .u8 98, .int .u8 99, .int .u8 100, .int .u8 101, .int .u8 102] t frozen | o => o } : World).forCall (fun _ _ => 0) ⟨#[], #[.slice none 0 0, .string .empty], []⟩).memory :=
  laidMet_of_run' 8 (by kernel_rfl) (by kernel_rfl)
theorem reads (os : Os) {H : Type} (enc : TypeId × Value → H) : ∃ places, DataW.whole enc Tryd.prog (({ World.holding Tryd.prog os ⟨#[], #[], []⟩ with heap := (World.holding Tryd.prog os ⟨#[], #[], []⟩).heap.modify 0 fun | .cells _ t frozen => .cells #[.int .u8 48, .int .u8 49, .int .u8 50, .int .u8 51, .int .u8 52, .int .u8 53, .int .u8 54, .int .u8 55, .int .u8 56, .int .u8 57, .int .u8 97, .int .u8 98, .int .u8 99, .int .u8 100, .int .u8 101, .int .u8 102] t frozen | o => o } : World).forCall (fun _ _ => 0) ⟨#[], #[.slice none 0 0, .string .empty], []⟩).memory Tryd.f6.params.toList Rows.octetHexesSpec.vars false #[Value.slice none 0 0, Value.string .empty].toList 8 = some ([.nil, .lit (.string [])], [], places) :=
  ⟨[], by kernel_rfl⟩

set_option maxRecDepth 100000 in
theorem lifted (os : Os) (started : os.Started) (H : Type) (enc : TypeId × Value → H) (F : Stop.Interp) :
    ReturnsInHanded {} Tryd.checked os 6 .any ((OpenSpec.ofChange Rows.octetHexesSpec).preRow enc Tryd.prog Tryd.f6 Rows.octetHexesRow.domain false Rows.octetHexesRow.laid) (((OpenSpec.ofChange Rows.octetHexesSpec).at F).post enc Tryd.prog Tryd.f6 false true false false) := by
  obtain ⟨places, hx⟩ := reads os enc
  refine returnsInHanded_of_row (C := Tryd.checked) (s := OpenSpec.ofChange Rows.octetHexesSpec) own started (by kernel_rfl) Tryd.func6
    (witness_row_at (enc := enc) (C := Tryd.checked) false ({ World.holding Tryd.prog os ⟨#[], #[], []⟩ with heap := (World.holding Tryd.prog os ⟨#[], #[], []⟩).heap.modify 0 fun | .cells _ t frozen => .cells #[.int .u8 48, .int .u8 49, .int .u8 50, .int .u8 51, .int .u8 52, .int .u8 53, .int .u8 54, .int .u8 55, .int .u8 56, .int .u8 57, .int .u8 97, .int .u8 98, .int .u8 99, .int .u8 100, .int .u8 101, .int .u8 102] t frozen | o => o } : World) #[.slice none 0 0, .string .empty] rfl (by kernel_rfl) (by kernel_rfl) (by kernel_rfl)
      (OpenSpec.preRow_of_cond 8 hx (by kernel_rfl) (fun k hk => by cases hk) (by kernel_rfl) (laid_met os))) ?_
  intro W base args ds gs before hval hW _ _ _ hL _ _
  exact contract H enc W base args ds gs before hval hW hL

theorem said : Rows.OctetHexesSaid :=
  OpenClaim.holds_of_cond 6 Tryd.f6 rfl rfl rfl rfl rfl rfl rfl ⟨rfl, rfl, rfl, rfl, rfl⟩ rfl rfl rfl rfl rfl (by kernel_rfl) Tryd.func6 (by kernel_rfl)
    (of_decide_eq_true (by kernel_rfl)) (by unfold Func.isWrapper; first | (rw [if_pos (by decide +kernel)]; kernel_rfl) | (rw [if_neg (by decide +kernel)]; exact ⟨rfl, rfl⟩))
    (fun os started H enc _ F => by rw [OpenClaim.pre_eq_preRow]; exact lifted os started H enc F)

theorem plain (f : FuncId) (fn : Func) (hf : Tryd.pinned.checked.prog.funcNamed "nepenthe/nepenthelaw01.OctetHexes" = some f) (hfn : Tryd.pinned.checked.prog.funcs[f]? = some fn) :
    false = Tryd.pinned.checked.prog.looks [] ∧ ∀ (j : Nat) t, fn.params[j]? = some t → Tryd.pinned.checked.prog.wantsStandIn t = false := by
  obtain rfl : f = 6 := Option.some.inj ((show Tryd.prog.funcNamed "nepenthe/nepenthelaw01.OctetHexes" = some 6 by kernel_rfl).symm.trans hf) |>.symm
  obtain rfl : fn = Tryd.f6 := (Option.some.inj (Tryd.func6.symm.trans hfn)).symm
  refine ⟨by kernel_rfl, fun j t ht => ?_⟩
  rw [Tryd.params6] at ht
  have hm := Array.mem_of_getElem? ht
  simp at hm
  rcases hm with rfl | rfl
  · exact (show Tryd.prog.wantsStandIn 23 = false by kernel_rfl)
  · exact (show Tryd.prog.wantsStandIn 9 = false by kernel_rfl)
end Go.Proofs.YtocihlnmajkceaaDoor.octetHexes

namespace Go.Proofs.YtocihlnmajkceaaDoor
theorem octetHexes_card : Rows.OctetHexesCardSaid :=
  Claim7.holds_tied_plain_at .later [] _ _ _ _ octetHexes.said (fun _ h => by cases h) (by kernel_rfl) (fun _ h => by cases h) octetHexes_row_tie rfl ⟨rfl, rfl⟩ (by kernel_rfl) rfl octetHexes.plain (by kernel_rfl)
#print axioms octetHexes_card
end Go.Proofs.YtocihlnmajkceaaDoor
