/- P2.1: for every list of words s and every list of bytes b: sha.Compress(s, b) is ErrShape and no words, if they are not eight words and 64 bytes, else OK and the state s compressed with the block b, as the reference has it. -/
import Derived.Test.YtigakkmoigfboaaLaw2
import Derived.Test.YtigakkmoigfboaaShaComp
import Derived.Test.YtigakkmoigfboaaRefComp
namespace Go.Proofs.Ytigakkmoigfboaa.shaCompresses
open Go.ChangeShapes Go.WideShapes Go.ChangeAt Go.RowKit

set_option maxHeartbeats 4000000 in
theorem walk (va : Value) (st : List Int) (vb : Value) (bs : List Int) (w : World) (ha : Wrd w va st) (hb : Byt w vb bs) :
    Calls Try.prog 4 #[va, vb] w fun e w' => e = .returned (.bool true) ∧ Below w.heap.size w w' := by
  have HS : Hid (Wrd w va st) := ha
  have HB : Hid (Byt w vb bs) := hb
  have HCL : Hid ((comp st bs).length = 8) := comp_len st bs
  obtain ⟨ao, ca, rfl, ha1, ha2, -, -, -⟩ := ha
  obtain ⟨bo, cb, rfl, hb1, hb2, -, -, -⟩ := hb
  have HC := fun w0 h1 h2 => compressP_any w0 (.slice ao st.length ca) (.slice bo bs.length cb) st bs h1 h2
  have HRC : Hid (∀ w0, Wrd w0 (.slice ao st.length ca) st → Byt w0 (.slice bo bs.length cb) bs → st.length = 8 → bs.length = 64 → Calls Try.prog 14 #[.slice ao st.length ca, .slice bo bs.length cb] w0 fun e w' => ∃ r, e = .returned r ∧ Wrd w' r (comp st bs) ∧ Below w0.heap.size w0 w') := fun w0 h1 h2 h3 h4 => rcompress_any w0 _ _ st bs h1 h2 h3 h4
  generalize comp st bs = cm at *
  have HCC : Hid (∀ w0, Wrd w0 (.slice ao st.length ca) st → Byt w0 (.slice bo bs.length cb) bs → Calls Try.prog 13 #[.slice ao st.length ca, .slice bo bs.length cb] w0 fun e w' => Below w0.heap.size w0 w' ∧ (st.length = 8 ∧ bs.length = 64 → ∃ r, e = .returned (.tuple #[r, .int .i64 0]) ∧ Wrd w' r cm) ∧ (¬ (st.length = 8 ∧ bs.length = 64) → e = .returned (.tuple #[.slice none 0 0, .int .i64 2]))) := HC
  clear HC
  obtain ⟨n, hn⟩ : ∃ n, n = st.length := ⟨_, rfl⟩
  obtain ⟨m, hm⟩ : ∃ m, m = bs.length := ⟨_, rfl⟩
  rw [← hn] at HS ha1 HRC HCC ⊢
  rw [← hm] at HB hb1 HRC HCC ⊢
  clear hn hm
  by_cases h8 : n = 8
  · subst h8
    by_cases h64 : m = 64
    · subst h64
      go_enter Try.func4, Try.ntmps4
      go_wp2_with (first
        | (go_at_call 13; refine (HCC.out _ HS.out HB.out).mono ?_; rintro e w1 ⟨b1, h1, -⟩; obtain ⟨r, rfl, hr⟩ := h1 (by simp); obtain ⟨br, orr, cr, rfl, r1, r2, r3, hcr⟩ := hr.opn 8 HCL.out (by omega); have HCR : Hid (∀ t, t < 8 → w1.cell? ⟨br, orr + t, none⟩ = some (.int .u32 (gb cm t))) := hcr; clear hcr h1 hr; have s1 := b1.size; have HS1 : Hid (Wrd w1 (.slice ao 8 ca) st) := HS.out.below b1; have HB1 : Hid (Byt w1 (.slice bo 64 cb) bs) := HB.out.below b1)
        | (go_at_call 14; refine (HRC.out _ HS1.out HB1.out (by simp) (by simp)).mono ?_; rintro e w2 ⟨q, rfl, hq, b2⟩; obtain ⟨bq, oq, cq, rfl, q1, q2, q3, hcq⟩ := hq.opn 8 HCL.out (by omega); have HCQ : Hid (∀ t, t < 8 → w2.cell? ⟨bq, oq + t, none⟩ = some (.int .u32 (gb cm t))) := hcq; clear hcq hq; have c2 : Below w.heap.size w w2 := b1.trans (b2.mono s1)))
      go_loopw [8] (fun i wr => ∃ k : Nat, k ≤ 8 ∧ i = .int .i64 k ∧ Below w2.heap.size w2 wr) (fun i _ => 8 - (intOf i).toNat)
      case atStart => exact ⟨0, Nat.zero_le _, rfl, Below.refl _ _⟩
      case round =>
        obtain ⟨k, hk, rfl, hbx⟩ := hrel
        have k0 : (0 : Int) ≤ (k : Int) := by omega
        have q3' : IntKind.i64.wrap (k : Int) = k := by rw [IntKind.wrap_i64]; omega
        by_cases hlt : k < 8
        · have k8 : (k : Int) < 8 := by omega
          have xr : wr.cell? ⟨br, orr + k, none⟩ = some (.int .u32 (gb cm k)) := (hbx.cell (Nat.lt_of_lt_of_le r3 b2.size)).trans ((b2.cell r3).trans (HCR.out k hlt))
          have xq : wr.cell? ⟨bq, oq + k, none⟩ = some (.int .u32 (gb cm k)) := (hbx.cell q3).trans (HCQ.out k hlt)
          generalize gb cm k = x at *
          go_wp2
          go_quiet (fail)
          go_wp2
          go_roundw
          case rel => exact ⟨k + 1, by omega, by go_num, below_drewN hbx nq⟩
          case measure => simp [intOf]; omega
        · have : k = 8 := by omega
          subst this
          go_wp2_with (go_at_call 7; refine (awake_any _).mono ?_; rintro e w4 ⟨rfl, b4⟩)
          go_ret
          have c3 : Below w.heap.size w wr := c2.trans (hbx.mono c2.size)
          exact ⟨rfl, c3.trans (b4.mono c3.size)⟩
    · have l2 : ¬ (m : Int) = 64 := by omega
      go_enter Try.func4, Try.ntmps4
      go_wp2_with (first
        | (go_at_call 13; refine (HCC.out _ HS.out HB.out).mono ?_; rintro e w1 ⟨b1, -, h1⟩; obtain rfl := h1 (fun h => h64 h.2); clear h1)
        | (go_at_call 7; refine (awake_any _).mono ?_; rintro e w4 ⟨rfl, b4⟩))
      go_ret
      exact ⟨rfl, b1.trans (b4.mono b1.size)⟩
  · have l1 : ¬ (n : Int) = 8 := by omega
    go_enter Try.func4, Try.ntmps4
    go_wp2_with (first
      | (go_at_call 13; refine (HCC.out _ HS.out HB.out).mono ?_; rintro e w1 ⟨b1, -, h1⟩; obtain rfl := h1 (fun h => h8 h.1); clear h1)
      | (go_at_call 7; refine (awake_any _).mono ?_; rintro e w4 ⟨rfl, b4⟩))
    go_ret
    exact ⟨rfl, b1.trans (b4.mono b1.size)⟩

theorem params : ∀ t ∈ Try.f4.params.toList, Try.prog.readableRec t = true ∧ t < Try.prog.types.size := by
  rw [Try.params4]
  intro t ht
  simp at ht
  rcases ht with rfl | rfl
  · exact ⟨by kernel_rfl, of_decide_eq_true (by kernel_rfl)⟩
  · exact ⟨by kernel_rfl, of_decide_eq_true (by kernel_rfl)⟩

theorem contract (H : Type) (enc : TypeId × Value → H) (W : World) (base : Nat) (args : Array Value) (ds gs : List (DataW H)) (before : List MemPlace)
    (hval : ∀ (j : Nat) t v, Try.f4.params[j]? = some t → args[j]? = some v → Value.okWide Try.prog W .any base t v)
    (hW : DataW.Whole enc Try.prog Try.f4.params.toList Rows.shaCompressesSpec.vars false W args.toList ds gs before) :
    Calls Try.prog 4 args W fun e W' => ∃ v, e = .returned v ∧ Rows.shaCompressesSpec.post enc Try.prog Try.f4 false true false false W args v W' := by
  have hW' := hW
  obtain ⟨p, q, hA0, hV, rfl, hfz, hnd⟩ := hW
  have hA : DataW.TrodAll enc Try.prog W 0 (fun _ => true) true Try.f4.params.toList args.toList ds p := hA0
  rw [Try.params4] at hA hval
  obtain ⟨v0, v1, d0, d1, p0, p1, rfl, rfl, rfl, h0, h1⟩ := trodAll_two hA
  obtain ⟨rfl, rfl⟩ := trodVars_none hV
  obtain ⟨xs0, b0⟩ := wrd_open (hval 0 27 v0 rfl rfl) h0
  obtain ⟨xs1, b1⟩ := byt_open (hval 1 22 v1 rfl rfl) h1
  clear hA0
  refine (walk v0 xs0 v1 xs1 W b0 b1).mono fun e W' ⟨he, hg⟩ => ?_
  subst he
  exact ⟨_, rfl, post_law rfl (by kernel_rfl) params rfl rfl rfl hW' hg⟩

theorem laid_met (os : Os) : laidMet Try.prog Rows.shaCompressesRow.laid ((World.holding Try.prog os ⟨#[], #[], []⟩).forCall (fun _ _ => 0) ⟨#[], #[.slice none 0 0, .slice none 0 0], []⟩).memory :=
  laidMet_of_run' 8 (by kernel_rfl) (by kernel_rfl)
theorem reads (os : Os) {H : Type} (enc : TypeId × Value → H) : ∃ places, DataW.whole enc Try.prog ((World.holding Try.prog os ⟨#[], #[], []⟩).forCall (fun _ _ => 0) ⟨#[], #[.slice none 0 0, .slice none 0 0], []⟩).memory Try.f4.params.toList Rows.shaCompressesSpec.vars false #[Value.slice none 0 0, Value.slice none 0 0].toList 8 = some ([.nil, .nil], [], places) :=
  ⟨[], by kernel_rfl⟩

set_option maxRecDepth 100000 in
theorem lifted (os : Os) (started : os.Started) (H : Type) (enc : TypeId × Value → H) (F : Stop.Interp) :
    ReturnsInHanded {} Try.checked os 4 .any ((OpenSpec.ofChange Rows.shaCompressesSpec).preRow enc Try.prog Try.f4 Rows.shaCompressesRow.domain false Rows.shaCompressesRow.laid) (((OpenSpec.ofChange Rows.shaCompressesSpec).at F).post enc Try.prog Try.f4 false true false false) := by
  obtain ⟨places, hx⟩ := reads os enc
  refine returnsInHanded_of_row (C := Try.checked) (s := OpenSpec.ofChange Rows.shaCompressesSpec) own started (by kernel_rfl) Try.func4
    (witness_row_at (enc := enc) (C := Try.checked) false (World.holding Try.prog os ⟨#[], #[], []⟩) #[.slice none 0 0, .slice none 0 0] rfl (by kernel_rfl) (by kernel_rfl) (by kernel_rfl)
      (OpenSpec.preRow_of_cond 8 hx (by kernel_rfl) (fun k hk => by cases hk) (by kernel_rfl) (laid_met os))) ?_
  intro W base args ds gs before hval hW _ _ _ _ _ _
  exact contract H enc W base args ds gs before hval hW

theorem said : Rows.ShaCompressesSaid :=
  OpenClaim.holds_of_cond 4 Try.f4 rfl rfl rfl rfl rfl rfl rfl ⟨rfl, rfl, rfl, rfl, rfl⟩ rfl rfl rfl rfl rfl (by kernel_rfl) Try.func4 (by kernel_rfl)
    (of_decide_eq_true (by kernel_rfl)) (by unfold Func.isWrapper; first | (rw [if_pos (by decide +kernel)]; kernel_rfl) | (rw [if_neg (by decide +kernel)]; exact ⟨rfl, rfl⟩))
    (fun os started H enc _ F => by rw [OpenClaim.pre_eq_preRow]; exact lifted os started H enc F)
end Go.Proofs.Ytigakkmoigfboaa.shaCompresses

namespace Go.Proofs.Ytigakkmoigfboaa
theorem shaCompresses_said : Rows.ShaCompressesSaid := shaCompresses.said
#print axioms shaCompresses_said
end Go.Proofs.Ytigakkmoigfboaa
