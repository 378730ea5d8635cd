/- Parts of the proof: what KeyboxGone reaches. No claim of its own. -/
import Derived.WalkKit
import Derived.Deep.QuietTactic
import Derived.Deep.RegionHeld3
import Derived.Deep.WholeRow
import Derived.Deep.MidRow
import Derived.Laws.StructEq
import Derived.Lib.AppendZeros
import Derived.Lib.SliceRun
import Derived.Lib.MakeNoZero
import Derived.Deep.DeepCutAuto
import Derived.ArgAppend
import Derived.WalkSmall
import Derived.ProofKit
import Derived.OpenShut
import Derived.BigQuiet
import Derived.Laws.AppendOwnNone
import Derived.Deep.DeepHandedRow
import Derived.Lib.LaidTab
import Derived.Deep.Matrix
import Derived.Test.YtakibiigcdgohaaGreatDoorD00
import Derived.Test.YtakibiigcdgohaaGreatDoorD01
import Derived.Test.YtakibiigcdgohaaGreatDoorD02
import Derived.Test.YtakibiigcdgohaaGreatDoorD03
import Derived.Test.YtakibiigcdgohaaGreatDoorD04
import Derived.Test.YtakibiigcdgohaaGreatDoorD05
import Derived.Test.YtakibiigcdgohaaGreatDoorD06
import Derived.Test.YtakibiigcdgohaaGreatDoorD07
import Derived.Test.YtakibiigcdgohaaGreatDoorD08
import Derived.Test.YtakibiigcdgohaaGreatDoorD09
import Derived.Test.YtakibiigcdgohaaGreatDoorD10
import Derived.Test.YtakibiigcdgohaaGreatDoorD11
import Derived.Test.YtakibiigcdgohaaGreatDoorD12
import Derived.Test.YtakibiigcdgohaaGreatDoorD13
import Derived.Test.YtakibiigcdgohaaGreatDoorD14
import Derived.Test.YtakibiigcdgohaaGreatDoorD15
import Derived.Test.YtakibiigcdgohaaGreatDoorD16
set_option maxHeartbeats 8000000
namespace Go.Proofs.YtakibiigcdgohaaGreatDoor.vb
open Go.RowKit Go.Proofs.YtakibiigcdgohaaGreatDoor.fa Go.Proofs.YtakibiigcdgohaaGreatDoor.he Go.Proofs.YtakibiigcdgohaaGreatDoor.pa Go.Proofs.YtakibiigcdgohaaGreatDoor.ck
set_option maxRecDepth 20000
theorem Bs.hlt {H : Ch} {M : Nat → Bool} {w : World} {B : Nat} {b : Bx} {l : List na.Opn} (h : Bs H M w B b l) (k : Nat) (hk : k < 4) : w.cell? ⟨B, 1, none⟩ = some (.int .i64 b.cur) ∧ w.cell? ⟨B, 3 + k, none⟩ = some (.bool (b.cln k)) ∧ w.cell? ⟨B, 7 + k, none⟩ = some (.bool (b.bad k)) ∧ w.cell? ⟨B, 11 + k, none⟩ = some (.bool (b.lk k)) :=
  ⟨h.2.2.1.cell 1 _ rfl, h.2.2.1.cell _ _ (get_cln H.c b k hk), h.2.2.1.cell _ _ (get_bad H.c b k hk), h.2.2.1.cell _ _ (get_lk H.c b k hk)⟩
theorem oth_step {P T : Nat} {pl : na.Pln} {m : Nat} {b : Bx} {k : Nat} : oth P T pl (m + 1) b k = if (k : Int) = b.cur ∨ b.cln k = true ∨ (b.bad k = true ∧ b.lk k = false) then oth P T pl m b (k + 1)
    else if (dst P T pl b k).2 = 4 then dst P T pl b k else oth P T pl m (dst P T pl b k).1 (k + 1) := rfl
section
variable {H : Ch} {M : Nat → Bool} {w : World} {B : Nat} {b : Bx} {l : List na.Opn}
theorem others_any (h : Bs H M w B b l) (hn : na.ops b.s ≤ 999980) :
    Calls Tryz.prog 47 #[.pointer (some ⟨B, 0, none⟩)] w (Opd H M w B (oth H.P H.T H.pl 4 b 0).2 (oth H.P H.T H.pl 4 b 0).1) := by
  have HB : Hid (Bs H M w B b l) := h
  have HN : Hid (na.ops b.s ≤ 999980) := hn
  obtain ⟨R, eR⟩ : ∃ R, oth H.P H.T H.pl 4 b 0 = R := ⟨_, rfl⟩
  have ER : Hid (oth H.P H.T H.pl 4 b 0 = R) := eR
  rw [eR]
  clear h hn eR
  go_enter Tryz.func47, Tryz.ntmps47
  go_wp2
  go_loopw [5] (fun i wr => ∃ (k : Nat) (b' : Bx) (M' : Nat → Bool) (l' : List na.Opn), k ≤ 4 ∧ i = .int .i64 (k : Int) ∧ oth H.P H.T H.pl (4 - k) b' k = R ∧ Bs H M' wr B b' l' ∧ Fr M w B M' wr ∧ na.ops b'.s ≤ 999980 + 2 * k) (fun i _ => 4 - (intOf i).toNat)
  case atStart => exact ⟨0, b, M, l, by omega, rfl, ER.out, HB.out, Fr.refl _ _ _, HN.out⟩
  case round =>
    obtain ⟨k, b', M', l', hk, rfl, hR, hB, hF, ho⟩ := hrel
    have HR : Hid (oth H.P H.T H.pl (4 - k) b' k = R) := hR
    have HB : Hid (Bs H M' wr B b' l') := hB
    have HF : Hid (Fr M w B M' wr) := hF
    have HO : Hid (na.ops b'.s ≤ 999980 + 2 * k) := ho
    clear ER HN hR hB hF ho
    by_cases hlt : k < 4
    · have HK : Hid (k < 4) := hlt
      have lk0 : (0 : Int) ≤ (k : Int) := by omega
      have lk1 : (k : Int) < 4 := by omega
      have lk2 : IntKind.i64.wrap ((k : Int) + 1) = (k : Int) + 1 := by rw [IntKind.wrap_i64]; omega
      obtain ⟨c1, c2, c3, c4⟩ := HB.out.hlt k hlt
      have HS : Hid (R = if (k : Int) = b'.cur ∨ b'.cln k = true ∨ (b'.bad k = true ∧ b'.lk k = false) then oth H.P H.T H.pl (3 - k) b' (k + 1)
        else if (dst H.P H.T H.pl b' k).2 = 4 then dst H.P H.T H.pl b' k else oth H.P H.T H.pl (3 - k) (dst H.P H.T H.pl b' k).1 (k + 1)) := by
        have := HR.out
        rw [show 4 - k = (3 - k) + 1 by omega, oth_step] at this
        exact this.symm
      clear hlt HR c2
      have skip : (k : Int) = b'.cur ∨ b'.cln k = true ∨ (b'.bad k = true ∧ b'.lk k = false) → oth H.P H.T H.pl (4 - (k + 1)) b' (k + 1) = R := fun z => by rw [HS.out, if_pos z, show 4 - (k + 1) = 3 - k by omega]
      by_cases hc : (k : Int) = b'.cur
      · have SK : Hid (oth H.P H.T H.pl (4 - (k + 1)) b' (k + 1) = R) := skip (.inl hc)
        rw [← hc] at c1
        clear hc skip
        go_wp2
        go_roundw
        case rel => exact ⟨k + 1, b', M', l', by omega, by go_num, SK.out, HB.out, HF.out, by have := HO.out; omega⟩
        case measure => simp [intOf]; omega
      · have nc : ((k : Int) == b'.cur) = false := beq_eq_false_iff_ne.2 hc
        by_cases hb : b'.bad k = true ∧ b'.lk k = false
        · have SK : Hid (oth H.P H.T H.pl (4 - (k + 1)) b' (k + 1) = R) := skip (.inr (.inr hb))
          rw [hb.1] at c3
          rw [hb.2] at c4
          clear hc hb skip
          go_wp2
          go_roundw
          case rel => exact ⟨k + 1, b', M', l', by omega, by go_num, SK.out, HB.out, HF.out, by have := HO.out; omega⟩
          case measure => simp [intOf]; omega
        · have hbb : b'.bad k = false ∨ (b'.bad k = true ∧ b'.lk k = true) := by
            cases h1 : b'.bad k with
            | false => exact .inl rfl
            | true => cases h2 : b'.lk k with
              | false => exact absurd ⟨h1, h2⟩ hb
              | true => exact .inr ⟨rfl, rfl⟩
          cases hcl : b'.cln k with
          | true =>
            have SK : Hid (oth H.P H.T H.pl (4 - (k + 1)) b' (k + 1) = R) := skip (.inr (.inl hcl))
            have SC : Hid (∀ w0, w0 = wr → Calls Tryz.prog 70 #[.pointer (some ⟨B, 0, none⟩), .int .i64 (k : Int)] w0 (Opd H M' wr B 0 b')) := fun w0 e => by subst e; exact cleanse_t HB.out k HK.out hcl
            clear hc hb hcl skip
            rcases hbb with h1 | ⟨h1, h2⟩
            · rw [h1] at c3
              clear h1
              have t0 := tR
              go_wp2_with (first
                | (have q0 := t0; go_at_call 70; refine (SC.out wr rfl).mono ?_; rintro e9 w1 ⟨M1, l1, rfl, b9, f9⟩; have HB : Hid (Bs H M1 w1 B b' l1) := b9; have HF : Hid (Fr M w B M1 w1) := HF.out.trans f9; clear b9 f9 t0 c1 c3 c4; have t1 := tR))
              go_roundw
              case rel => exact ⟨k + 1, b', M1, l1, by omega, by go_num, SK.out, HB.out, HF.out, by have := HO.out; omega⟩
              case measure => simp [intOf]; omega
            · rw [h1] at c3
              rw [h2] at c4
              clear h1 h2
              have t0 := tR
              go_wp2_with (first
                | (have q0 := t0; go_at_call 70; refine (SC.out wr rfl).mono ?_; rintro e9 w1 ⟨M1, l1, rfl, b9, f9⟩; have HB : Hid (Bs H M1 w1 B b' l1) := b9; have HF : Hid (Fr M w B M1 w1) := HF.out.trans f9; clear b9 f9 t0 c1 c3 c4; have t1 := tR))
              go_roundw
              case rel => exact ⟨k + 1, b', M1, l1, by omega, by go_num, SK.out, HB.out, HF.out, by have := HO.out; omega⟩
              case measure => simp [intOf]; omega
          | false =>
            have nsk : ¬ ((k : Int) = b'.cur ∨ b'.cln k = true ∨ (b'.bad k = true ∧ b'.lk k = false)) := fun z => by
              rcases z with z | z | z
              · exact hc z
              · rw [hcl] at z; cases z
              · exact hb z
            have SC : Hid (∀ w0, w0 = wr → Calls Tryz.prog 70 #[.pointer (some ⟨B, 0, none⟩), .int .i64 (k : Int)] w0 (Opd H M' wr B (if (dst H.P H.T H.pl b' k).2 = 4 then 4 else 0) (dst H.P H.T H.pl b' k).1)) := fun w0 e => by subst e; exact cleanse_f HB.out k HK.out hcl (by have := HO.out; have := HK.out; omega)
            have hop := dst_ops (P := H.P) (T := H.T) (pl := H.pl) (b := b') (k := k)
            have HP : Hid (na.ops (dst H.P H.T H.pl b' k).1.s ≤ na.ops b'.s + 2) := hop
            by_cases h4 : (dst H.P H.T H.pl b' k).2 = 4
            · have E4 : Hid (R = dst H.P H.T H.pl b' k) := by show R = _; rw [HS.out, if_neg nsk, if_pos h4]
              rw [if_pos h4] at SC
              have H4 : Hid ((dst H.P H.T H.pl b' k).2 = 4) := h4
              clear hc hb hcl skip h4 nsk hop HS HP
              generalize dst H.P H.T H.pl b' k = D at SC E4 H4
              rcases hbb with h1 | ⟨h1, h2⟩
              · rw [h1] at c3
                clear h1
                have t0 := tR
                go_wp2_with (first
                  | (have q0 := t0; go_at_call 70; refine (SC.out wr rfl).mono ?_; rintro e9 w1 ⟨M1, l1, rfl, b9, f9⟩; have HB : Hid (Bs H M1 w1 B D.1 l1) := b9; have HF : Hid (Fr M w B M1 w1) := HF.out.trans f9; clear b9 f9 t0 c1 c3 c4; have t1 := tR))
                go_ret
                exact ⟨_, _, congrArg (fun z => Ending.returned (.int .i64 z)) (show (4 : Int) = R.2 by rw [E4.out, H4.out]), by rw [E4.out]; exact HB.out, HF.out⟩
              · rw [h1] at c3
                rw [h2] at c4
                clear h1 h2
                have t0 := tR
                go_wp2_with (first
                  | (have q0 := t0; go_at_call 70; refine (SC.out wr rfl).mono ?_; rintro e9 w1 ⟨M1, l1, rfl, b9, f9⟩; have HB : Hid (Bs H M1 w1 B D.1 l1) := b9; have HF : Hid (Fr M w B M1 w1) := HF.out.trans f9; clear b9 f9 t0 c1 c3 c4; have t1 := tR))
                go_ret
                exact ⟨_, _, congrArg (fun z => Ending.returned (.int .i64 z)) (show (4 : Int) = R.2 by rw [E4.out, H4.out]), by rw [E4.out]; exact HB.out, HF.out⟩
            · have E5 : Hid (oth H.P H.T H.pl (4 - (k + 1)) (dst H.P H.T H.pl b' k).1 (k + 1) = R) := by show _ = R; rw [HS.out, if_neg nsk, if_neg h4, show 4 - (k + 1) = 3 - k by omega]
              rw [if_neg h4] at SC
              clear hc hb hcl skip h4 nsk hop HS
              generalize dst H.P H.T H.pl b' k = D at SC E5 HP
              rcases hbb with h1 | ⟨h1, h2⟩
              · rw [h1] at c3
                clear h1
                have t0 := tR
                go_wp2_with (first
                  | (have q0 := t0; go_at_call 70; refine (SC.out wr rfl).mono ?_; rintro e9 w1 ⟨M1, l1, rfl, b9, f9⟩; have HB : Hid (Bs H M1 w1 B D.1 l1) := b9; have HF : Hid (Fr M w B M1 w1) := HF.out.trans f9; clear b9 f9 t0 c1 c3 c4; have t1 := tR))
                go_roundw
                case rel => exact ⟨k + 1, D.1, M1, l1, by omega, by go_num, E5.out, HB.out, HF.out, by have := HO.out; have := HP.out; omega⟩
                case measure => simp [intOf]; omega
              · rw [h1] at c3
                rw [h2] at c4
                clear h1 h2
                have t0 := tR
                go_wp2_with (first
                  | (have q0 := t0; go_at_call 70; refine (SC.out wr rfl).mono ?_; rintro e9 w1 ⟨M1, l1, rfl, b9, f9⟩; have HB : Hid (Bs H M1 w1 B D.1 l1) := b9; have HF : Hid (Fr M w B M1 w1) := HF.out.trans f9; clear b9 f9 t0 c1 c3 c4; have t1 := tR))
                go_roundw
                case rel => exact ⟨k + 1, D.1, M1, l1, by omega, by go_num, E5.out, HB.out, HF.out, by have := HO.out; have := HP.out; omega⟩
                case measure => simp [intOf]; omega
    · have ek : k = 4 := by omega
      subst ek
      have ER : Hid ((b', (0 : Int)) = R) := HR.out
      clear HR
      go_wp2
      go_ret
      exact ⟨_, _, congrArg (fun z => Ending.returned (.int .i64 z)) (congrArg Prod.snd ER.out), by rw [← ER.out]; exact HB.out, HF.out⟩
def bhl (m j : Nat) : List Nat := ((List.range j).map fun i => (m + i) % 4).filter fun k => decide ((k : Int) ≠ (m : Int) - 1)
def nums (l : List Nat) : List Int := l.map fun (k : Nat) => (k : Int)
theorem bhl_yes {m j : Nat} (h : (((m + j) % 4 : Nat) : Int) ≠ (m : Int) - 1) : bhl m (j + 1) = bhl m j ++ [(m + j) % 4] := by
  unfold bhl
  rw [List.range_succ, List.map_append, List.filter_append]
  exact congrArg _ (List.filter_cons_of_pos (decide_eq_true h))
theorem bhl_no {m j : Nat} (h : (((m + j) % 4 : Nat) : Int) = (m : Int) - 1) : bhl m (j + 1) = bhl m j := by
  unfold bhl
  rw [List.range_succ, List.map_append, List.filter_append]
  refine (congrArg _ (List.filter_cons_of_neg (by simpa using h))).trans (List.append_nil _)
theorem bhl_len (m j : Nat) : (bhl m j).length ≤ j := by
  unfold bhl
  exact Nat.le_trans (List.length_filter_le _ _) (by simp)
theorem bhl_lt (m i : Nat) (hi : i < (bhl m 4).length) : (bhl m 4).getD i 0 < 4 := by
  have : (bhl m 4).getD i 0 ∈ bhl m 4 := by
    rw [List.getD_eq_getElem?_getD, List.getElem?_eq_getElem hi]
    exact List.getElem_mem hi
  unfold bhl at this
  obtain ⟨j, -, e⟩ := List.mem_map.1 (List.mem_filter.1 this).1
  unfold bhl
  rw [← e]
  exact Nat.mod_lt _ (by decide)
theorem bhl_pos (m : Nat) (hm : m ≤ 4) : 0 < (bhl m 4).length := by
  have : m = 0 ∨ m = 1 ∨ m = 2 ∨ m = 3 ∨ m = 4 := by omega
  rcases this with rfl | rfl | rfl | rfl | rfl <;> decide
theorem dst_cln0 {P T : Nat} {pl : na.Pln} {b : Bx} {k : Nat} (h : (dst P T pl b k).2 = 0) : (dst P T pl b k).1.cln k = true := by
  unfold dst at h ⊢
  split at h
  · exact absurd (show (4 : Int) = 0 from h) (by decide)
  · rename_i q
    rw [if_neg q]
    split at h
    · exact na.at1_same _ _ _
    · exact absurd (show (4 : Int) = 0 from h) (by decide)
    · split at h
      · exact absurd (show (5 : Int) = 0 from h) (by decide)
      · exact absurd (show (4 : Int) = 0 from h) (by decide)
      · exact absurd (show (5 : Int) = 0 from h) (by decide)
theorem behind_any (m : Nat) (hm : m ≤ 4) (w : World) (hc : w.cell? ⟨B, 1, none⟩ = some (.int .i64 ((m : Int) - 1))) :
    Calls Tryz.prog 69 #[.pointer (some ⟨B, 0, none⟩)] w fun e w' => ∃ v, e = .returned v ∧ ge.OwnI w.heap.size w' v (nums (bhl m 4)) ∧ Below w.heap.size w w' := by
  have HC : Hid (w.cell? ⟨B, 1, none⟩ = some (.int .i64 ((m : Int) - 1)) ∧ B < w.heap.size ∧ m ≤ 4) := ⟨hc, World.block_lt_of_cell? w _ hc, hm⟩
  clear hc hm
  go_enter Tryz.func69, Tryz.ntmps69
  go_wp2
  go_loopw [3, 6] (fun v i wr => ∃ (k : Nat) (v0 : Value), k ≤ 4 ∧ i = .int .i64 (k : Int) ∧ v = v0 ∧ ge.OwnI w.heap.size wr v0 (nums (bhl m k)) ∧ Below w.heap.size w wr) (fun _ i _ => 4 - (intOf i).toNat)
  case atStart => exact ⟨0, _, by omega, rfl, rfl, World.ownsRow_nil w _ _ 1, Below.refl _ _⟩
  case round =>
    obtain ⟨k, _, hk, rfl, rfl, hO, hB⟩ := hrel
    have HO : Hid (ge.OwnI w.heap.size wr u3 (nums (bhl m k))) := hO
    have HB : Hid (Below w.heap.size w wr) := hB
    have HK : Hid (k ≤ 4) := hk
    have c1 : wr.cell? ⟨B, 1, none⟩ = some (.int .i64 ((m : Int) - 1)) := by rw [hB.cell (p := ⟨B, 1, none⟩) HC.out.2.1]; exact HC.out.1
    by_cases hlt : k < 4
    · have lk1 : (k : Int) < 4 := by omega
      have lk2 : IntKind.i64.wrap ((k : Int) + 1) = (k : Int) + 1 := by rw [IntKind.wrap_i64]; omega
      have hm := HC.out.2.2
      have lk3 : IntKind.i64.wrap (m : Int) = (m : Int) := by rw [IntKind.wrap_i64]; omega
      have lk4 : IntKind.i64.wrap ((m : Int) + (k : Int)) = (m : Int) + (k : Int) := by rw [IntKind.wrap_i64]; omega
      have lk5 : ((m : Int) + (k : Int)).tmod 4 = (((m + k) % 4 : Nat) : Int) := by
        have : ((m : Int) + (k : Int)) = ((m + k : Nat) : Int) := by omega
        rw [this]; exact (Int.ofNat_tmod (m + k) 4).symm
      clear hO hB hm
      obtain ⟨X, eX⟩ : ∃ X : Int, (((m + k) % 4 : Nat) : Int) = X := ⟨_, rfl⟩
      have EX : Hid ((((m + k) % 4 : Nat) : Int) = X) := eX
      rw [eX] at lk5
      by_cases hx : X = (m : Int) - 1
      · have nx : (X != (m : Int) - 1) = false := by simp [hx]
        have EB : Hid (bhl m (k + 1) = bhl m k) := bhl_no (by rw [eX]; exact hx)
        clear hx eX
        go_wp2
        go_roundw
        case rel => exact ⟨k + 1, u3, by omega, by go_num, rfl, by rw [EB.out]; exact HO.out, HB.out⟩
        case measure => simp [intOf]; omega
      · have nx : (X != (m : Int) - 1) = true := bne_iff_ne.2 hx
        have EB : Hid (bhl m (k + 1) = bhl m k ++ [(m + k) % 4]) := bhl_yes (by rw [eX]; exact hx)
        clear hx eX
        have t0 := tR
        go_wp2_with (first
          | (have q0 := t0; at_builtin; refine ge.pushs_lawI _ rfl (.tmp 23) (.tmp 25) rfl w.heap.size (by have := HB.out.size; simp; omega) u3 (.slice (some ⟨wr.heap.size, 0, none⟩) 1 1) (nums (bhl m k)) [X] rfl rfl (HO.out.below ((Below.refl _ _).alloc (Nat.le_refl _) _)) (ge.OwnI.one wr (Nat.le_refl _) X).nums (by unfold nums; rw [List.length_map]; have := bhl_len m k; have := HK.out; omega) (by simp) ?_; intro v1 w1 o9 b9; have HO1 : Hid (ge.OwnI w.heap.size w1 v1 (nums (bhl m k) ++ [X])) := o9; have HB1 : Hid (Below w.heap.size w w1) := (HB.out.trans (((Below.refl _ _).alloc (Nat.le_refl _) _).mono HB.out.size)).trans b9; clear o9 b9 t0 c1; have t1 := tR))
        go_roundw
        case rel => exact ⟨k + 1, v1, by omega, by go_num, rfl, by rw [EB.out]; unfold nums; rw [List.map_append]; show ge.OwnI _ _ _ (_ ++ [(((m + k) % 4 : Nat) : Int)]); rw [EX.out]; exact HO1.out, HB1.out⟩
        case measure => simp [intOf]; omega
    · have ek : k = 4 := by omega
      subst ek
      clear hO hB
      go_wp2
      go_ret
      exact ⟨_, rfl, HO.out, HB.out⟩
end
end Go.Proofs.YtakibiigcdgohaaGreatDoor.vb
namespace Go.Proofs.YtakibiigcdgohaaGreatDoor.vb
open Go.RowKit Go.Proofs.YtakibiigcdgohaaGreatDoor.fa Go.Proofs.YtakibiigcdgohaaGreatDoor.he Go.Proofs.YtakibiigcdgohaaGreatDoor.na Go.Proofs.YtakibiigcdgohaaGreatDoor.ck
set_option maxRecDepth 20000
theorem gb_dr (xs : List Int) (a j : Nat) : gb (xs.drop a) j = gb xs (a + j) := by simp [gb, List.getD, List.getElem?_drop]
theorem hs_dr (xs : List Int) (a i : Nat) : hs (xs.drop a) i = hs xs (8 * a + i) := by
  unfold hs
  rw [gb_dr, show (8 * a + i) / 8 = a + i / 8 by omega, show (8 * a + i) % 8 = i % 8 by omega]
theorem gb_tk (xs : List Int) (a j : Nat) (h : j < a) : gb (xs.take a) j = gb xs j := by simp [gb, List.getD, h]
theorem hs_tk (xs : List Int) (a i : Nat) (h : i < 8 * a) : hs (xs.take a) i = hs xs i := by
  unfold hs
  rw [gb_tk _ _ _ (by omega)]
theorem bit_0 (t : Nat) : bit 0 t = false := by simp [bit]
theorem hs_rep0 (n i : Nat) : hs (List.replicate n 0) i = false := by
  have e : gb (List.replicate n 0) (i / 8) = 0 := by
    by_cases h : i / 8 < n
    · simp [gb, List.getD, h]
    · simp [gb, List.getD, h]
  unfold hs
  rw [e]; exact bit_0 _
theorem bit_255 : ∀ t, t < 8 → bit 255 t = true := by decide
theorem hs_rep255 (n i : Nat) (h : i < 8 * n) : hs (List.replicate n 255) i = true := by
  have e : gb (List.replicate n 255) (i / 8) = 255 := by
    have : i / 8 < n := by omega
    simp [gb, List.getD, this]
  unfold hs
  rw [e]; exact bit_255 _ (by omega)
theorem kcm_bits {S : Nat} {ys : List Int} (hl : ys.length = S + 88) (ha : AllB ys) : Kcm S ys ↔ ∀ i, 8 * (S + 80) ≤ i → i < 8 * (S + 88) → hs ys i = false := by
  unfold Kcm
  rw [List.drop_drop]
  refine ⟨fun h i h1 h2 => ?_, fun h => ?_⟩
  · have z := hs_dr ys (S + 80) (i - 8 * (S + 80))
    rw [show 8 * (S + 80) + (i - 8 * (S + 80)) = i by omega, h, hs_rep0] at z
    exact z.symm
  · refine hs_ext (by simp [hl]) (allB_mem fun x hx => ?_) (allB_replicate 0 _ (by omega)) fun i hi => ?_
    · obtain ⟨j, hj, rfl⟩ := List.getElem_of_mem (List.mem_of_mem_drop hx)
      have := ha j
      simpa [gb, List.getD, hj] using this
    · rw [hs_rep0, hs_dr]
      have : ((ys.drop (S + 80)).length) = 8 := by simp [hl]
      exact h _ (by omega) (by omega)
theorem andl_ofb (xs ys : List Int) (hx : AllB xs) : andl xs ys = ofb xs.length (fun i => hs xs i && hs ys i) := by
  refine ext_gb (by rw [andl_len, ofb_len]) fun k hk => ?_
  rw [andl_len] at hk
  rw [andl_gb _ _ k hk, ofb_gb _ _ k hk]
  exact ands_ofb xs ys hx k
theorem pgm_keep {T : Nat} {was d : List Int} (o : Option (Bool × List Int)) (hw : AllB was) (hl : was.length = T) (i : Nat) (hi : i < 8 * T) (hd : hs d i = true) : hs (pgm T o was d) i = hs was i := by
  have hn : fa.due was d i = false := by unfold fa.due; rw [hd]; simp
  match o with
  | none =>
    show hs (andl was d) i = _
    rw [andl_ofb was d hw, hl, hs_ofb _ _ i hi, hd, Bool.and_true]
  | some (true, m) =>
    show hs (ofb T (torn was d m)) i = _
    rw [hs_ofb _ _ i hi]
    unfold torn
    rw [hn]; simp
  | some (false, m) =>
    show hs (ofb T (failed was d m (8 * T))) i = _
    rw [hs_ofb _ _ i hi]
    unfold failed
    rw [hn]; simp
theorem pgm_open {S : Nat} {d : List Int} (o : Option (Bool × List Int)) (hd : hs d (8 * (S + 80)) = true) : ¬ Kcm S (pgm (S + 88) o (List.replicate (S + 88) 255) d) := fun h => by
  have w := pgm_wf (was := List.replicate (S + 88) 255) (b := d) (S + 88) o (allB_replicate 255 _ (by omega)) (by simp)
  have z := (kcm_bits w.1 w.2).1 h (8 * (S + 80)) (Nat.le_refl _) (by omega)
  rw [pgm_keep o (allB_replicate 255 _ (by omega)) (by simp) _ (by omega) hd, hs_rep255 _ _ (by omega)] at z
  exact Bool.false_ne_true z.symm
theorem hs_mark (S i : Nat) (_hi : i < 8 * (S + 88)) : hs (he.mark (S + 88)) i = decide (i < 8 * (S + 80)) := by
  unfold he.mark
  rw [show S + 88 - 8 = S + 80 by omega, hs_app, List.length_replicate]
  split
  · rename_i h
    rw [hs_rep255 _ _ h, decide_eq_true h]
  · rename_i h
    rw [hs_rep0, decide_eq_false h]
theorem pgm_fail {S : Nat} {was m : List Int} (hm : hs was (8 * (S + 88) - 1) = true) : ¬ Kcm S (pgm (S + 88) (some (false, m)) was (he.mark (S + 88))) := fun h => by
  have w : (ofb (S + 88) (failed was (he.mark (S + 88)) m (8 * (S + 88)))).length = S + 88 := ofb_len _ _
  have z := (kcm_bits w (ofb_all _ _)).1 h (8 * (S + 88) - 1) (by omega) (by omega)
  rw [hs_ofb _ _ _ (by omega)] at z
  have hdue : fa.due was (he.mark (S + 88)) (8 * (S + 88) - 1) = true := by
    unfold fa.due
    rw [hm, hs_mark _ _ (by omega), decide_eq_false (by omega)]; rfl
  have hlst : lst was (he.mark (S + 88)) (8 * (S + 88)) = 8 * (S + 88) := by
    obtain ⟨n, hn⟩ : ∃ n, 8 * (S + 88) = n + 1 := ⟨8 * (S + 88) - 1, by omega⟩
    rw [hn] at hdue ⊢
    rw [Nat.add_sub_cancel] at hdue
    unfold lst
    rw [if_pos hdue]
  unfold failed at z
  rw [hm, hlst, show 8 * (S + 88) - 1 + 1 = 8 * (S + 88) by omega] at z
  simp at z
theorem pgm_mark {S : Nat} {C mk : List Int} (o : Option (Bool × List Int)) (hC : C.length = S + 80) (aC : AllB C) (hm : mk.length = 8) (am : AllB mk) (h : Kcm S (pgm (S + 88) o (C ++ mk) (he.mark (S + 88)))) : pgm (S + 88) o (C ++ mk) (he.mark (S + 88)) = C ++ List.replicate 8 0 := by
  have hl : (C ++ mk).length = S + 88 := by simp [hC, hm]
  have w := pgm_wf (was := C ++ mk) (b := he.mark (S + 88)) (S + 88) o (allB_app aC am) hl
  refine hs_ext (by rw [w.1]; simp [hC]) w.2 (allB_app aC (allB_replicate 0 _ (by omega))) fun i hi => ?_
  rw [w.1] at hi
  by_cases q : i < 8 * (S + 80)
  · rw [pgm_keep o (allB_app aC am) hl i hi (by rw [hs_mark _ _ hi]; exact decide_eq_true q), hs_app, hs_app, hC, if_pos q, if_pos q]
  · rw [(kcm_bits w.1 w.2).1 h i (by omega) hi, hs_app, hC, if_neg q, hs_rep0]
theorem pgm_whole {S : Nat} {C mk : List Int} (hC : C.length = S + 80) (aC : AllB C) (hm : mk.length = 8) (am : AllB mk) : pgm (S + 88) none (C ++ mk) (he.mark (S + 88)) = C ++ List.replicate 8 0 := by
  have hl : (C ++ mk).length = S + 88 := by simp [hC, hm]
  have w := pgm_wf (was := C ++ mk) (b := he.mark (S + 88)) (S + 88) none (allB_app aC am) hl
  refine pgm_mark none hC aC hm am ((kcm_bits w.1 w.2).2 fun i h1 h2 => ?_)
  show hs (andl (C ++ mk) (he.mark (S + 88))) i = false
  rw [andl_ofb _ _ (allB_app aC am), hl, hs_ofb _ _ i h2, hs_mark _ _ h2, decide_eq_false (by omega), Bool.and_false]
theorem pgm_blank {T : Nat} {d : List Int} (hl : d.length = T) (ha : AllB d) : pgm T none (List.replicate T 255) d = d := by
  refine hs_ext (by show (andl _ _).length = _; rw [andl_len]; simp [hl]) (pgm_wf (was := List.replicate T 255) (b := d) T none (allB_replicate 255 _ (by omega)) (by simp)).2 ha fun i hi => ?_
  have hi : i < 8 * T := by
    have e : (pgm T none (List.replicate T 255) d).length = T := (pgm_wf T none (allB_replicate 255 _ (by omega)) (by simp)).1
    rwa [e] at hi
  show hs (andl (List.replicate T 255) d) i = _
  rw [andl_ofb _ _ (allB_replicate 255 _ (by omega)), List.length_replicate, hs_ofb _ _ i hi, hs_rep255 _ _ hi, Bool.true_and]
theorem hs_cut (T : Nat) (l : List Int) (p i : Nat) (hi : i < 8 * T) : hs (cut T l p) i = hs l (8 * (p * T) + i) := by
  unfold hs
  rw [cut_gb T l p (i / 8) (by omega), show (8 * (p * T) + i) / 8 = p * T + i / 8 by omega, show (8 * (p * T) + i) % 8 = i % 8 by omega]
theorem hs_jnd {P T : Nat} {f : Nat → List Int} (h : ∀ p, p < P → (f p).length = T) (p i : Nat) (hp : p < P) (hi : i < 8 * T) : hs (jnd P f) (8 * (p * T) + i) = hs (f p) i := by
  unfold hs
  rw [show (8 * (p * T) + i) / 8 = p * T + i / 8 by omega, show (8 * (p * T) + i) % 8 = i % 8 by omega, jnd_gb P T f h p (i / 8) hp (by omega)]
theorem ern_up {P T : Nat} {f : Nat → List Int} (h : ∀ p, p < P → (f p).length = T) (c : Bool) (m : List Int) (p i : Nat) (hp : p < P) (hi : i < 8 * T) (hb : hs (f p) i = true) : hs (ern P T (some (c, m)) f p) i = true := by
  show hs (cut T (ofb (P * T) (erased (jnd P f) m)) p) i = true
  have hlt : 8 * (p * T) + i < 8 * (P * T) := by
    have := Nat.mul_le_mul_right T (show p + 1 ≤ P from hp)
    rw [Nat.succ_mul] at this
    omega
  rw [hs_cut T _ p i hi, hs_ofb _ _ _ hlt]
  unfold erased
  rw [hs_jnd h p i hp hi, hb]; rfl
theorem up_kcm {S : Nat} {x y : List Int} (hx : x.length = S + 88) (ax : AllB x) (hy : y.length = S + 88) (ay : AllB y) (hu : ∀ i, i < 8 * (S + 88) → hs x i = true → hs y i = true) (h : Kcm S y) : Kcm S x := by
  refine (kcm_bits hx ax).2 fun i h1 h2 => ?_
  cases q : hs x i with
  | false => rfl
  | true => exact absurd (hu i h2 q) (by rw [(kcm_bits hy ay).1 h i h1 h2]; exact Bool.false_ne_true)
theorem up_gen {S i j : Nat} {g g' : Int} {x y : List Int} (ax : AllB x) (ay : AllB y) (hu : ∀ i, i < 8 * (S + 88) → hs x i = true → hs y i = true) (h : Kpg S g i x) (h' : Kpg S g' j y) : g' = g := by
  have lx : (x.drop S).length = 88 := by rw [List.length_drop, h.1]; omega
  have ly : (y.drop S).length = 88 := by rw [List.length_drop, h'.1]; omega
  have ad : ∀ z : List Int, AllB z → AllB (z.drop S) := fun z hz => allB_mem fun u hu => by
    obtain ⟨j, hj, rfl⟩ := List.getElem_of_mem (List.mem_of_mem_drop hu)
    have := hz j
    simpa [gb, List.getD, hj] using this
  have e : sub (y.drop S) 0 24 = sub (x.drop S) 0 24 := by
    have l0 : ∀ z : List Int, z.length = 88 → (sub z 0 24).length = 24 := fun z hz => by rw [sub_len _ _ _ (by omega)]
    have bt : ∀ z : List Int, z.length = 88 → ∀ t, t < 8 * 48 → hs (sub z 0 24 ++ sub z 24 48) t = hs z t := fun z hz t ht => by
      have es : sub z 0 24 ++ sub z 24 48 = z.take 48 := by
        unfold sub
        rw [List.drop_zero, show z.take 24 = (z.take 48).take 24 by rw [List.take_take]; rfl, List.take_append_drop]
      rw [es, hs_tk _ _ _ ht]
    refine bits_whole (p := sub (x.drop S) 0 24) (y := sub (y.drop S) 0 24) (z := sub (y.drop S) 24 48) (allB_sub (ad x ax) _ _) (allB_sub (ad y ay) _ _) (by rw [l0 _ lx, l0 _ ly]) h'.2.1.1 (.inl fun t ht hb => ?_)
    rw [l0 _ lx] at ht
    rw [h.2.1.1, bt _ lx t (by omega), hs_dr] at hb
    rw [bt _ ly t (by omega), hs_dr]
    exact hu _ (by omega) hb
  have q : ∀ z : List Int, sub z 8 16 = sub (sub z 0 24) 8 16 := fun z => by
    unfold sub
    rw [List.drop_zero, List.take_take]; rfl
  have e1 : qe (y.drop S) = qe (x.drop S) := by
    unfold qe
    rw [q, q (x.drop S), e]
  rw [← h.2.2.2.2.2.2.1, ← h'.2.2.2.2.2.2.1, e1]
end Go.Proofs.YtakibiigcdgohaaGreatDoor.vb
namespace Go.Proofs.YtakibiigcdgohaaGreatDoor.vb
open Go.RowKit Go.Proofs.YtakibiigcdgohaaGreatDoor.fa Go.Proofs.YtakibiigcdgohaaGreatDoor.he Go.Proofs.YtakibiigcdgohaaGreatDoor.na Go.Proofs.YtakibiigcdgohaaGreatDoor.ck
set_option maxRecDepth 20000
def hg (S : Nat) (f : Nat → List Int) : Int := qe ((f 0).drop S)
def Hd (S : Nat) (f : Nat → List Int) : Prop := (∀ i, i < nc S → Kpg S (hg S f) i (f i)) ∧ Kcm S (f (nc S - 1))
def hrec (S : Nat) (f : Nat → List Int) : List Int := (parts (fun i => (f i).take S) (nc S)).take 624
theorem hd_of {S : Nat} {f : Nat → List Int} {ls : List (List Int)} (h1 : 1 ≤ nc S) (h : ∀ j, j < nc S → f j = ls.getD j []) : hg S f = kgen S ls ∧ hrec S f = krec S ls ∧ (nc S ≤ ls.length → (Hd S f ↔ Khd S ls)) := by
  have e0 : hg S f = kgen S ls := by unfold hg kgen; rw [h 0 (by omega)]
  refine ⟨e0, ?_, fun hl => ⟨fun q => ⟨hl, fun i hi => ?_, ?_⟩, fun q => ⟨fun i hi => ?_, ?_⟩⟩⟩
  · unfold hrec krec
    rw [parts_congr (f' := fun i => (ls.getD i []).take S) _ fun i hi => by rw [h i hi]]
  · rw [← e0, ← h i hi]; exact q.1 i hi
  · rw [← h _ (by omega)]; exact q.2
  · rw [e0, h i hi]; exact q.2.1 i hi
  · rw [h _ (by omega)]; exact q.2.2
theorem bpg_at (P : Nat) (s : St) (k j : Nat) (h : j < P) : (bpg P s k).getD j [] = pgs s k j := by simp [bpg, List.getD, h]
theorem bpg_len (P : Nat) (s : St) (k : Nat) : (bpg P s k).length = P := by simp [bpg]
theorem hd_bpg {S P : Nat} {s : St} {k : Nat} (h1 : 1 ≤ nc S) (hP : nc S ≤ P) : hg S (pgs s k) = kgen S (bpg P s k) ∧ hrec S (pgs s k) = krec S (bpg P s k) ∧ (Hd S (pgs s k) ↔ Khd S (bpg P s k)) := by
  have z := hd_of (f := pgs s k) (ls := bpg P s k) h1 fun j hj => (bpg_at P s k j (by omega)).symm
  exact ⟨z.1, z.2.1, z.2.2 (by rw [bpg_len]; exact hP)⟩
theorem blank_open (S : Nat) : ¬ Kcm S (List.replicate (S + 88) 255) := fun h => by
  have z := (kcm_bits (by simp) (allB_replicate 255 _ (by omega))).1 h (8 * (S + 80)) (Nat.le_refl _) (by omega)
  rw [hs_rep255 _ _ (by omega)] at z
  exact Bool.false_ne_true z.symm
theorem fsh_open {S P : Nat} {s : St} {k : Nat} (h1 : 1 ≤ nc S) (hP : nc S ≤ P) (h : Fsh P (S + 88) s k) : ¬ Kcm S (pgs s k (nc S - 1)) := by
  rw [(h.1 (nc S - 1) (by omega)).1]
  exact blank_open S
theorem nul_not {S P : Nat} {s : St} {k : Nat} (h1 : 1 ≤ nc S) (hP : nc S ≤ P) (h : Nul P (S + 88) s k) : ¬ Hd S (pgs s k) := fun q => by
  have z := (q.1 0 (by omega)).2.1.2.2.1
  rw [h 0 (by omega), List.drop_replicate, show S + 88 - S = 88 by omega] at z
  exact absurd z (by decide)
theorem pgk_parts {S i : Nat} {xs : List Int} {gen : Int} (h1 : 32 ≤ S) (h2 : S ≤ 4096) (hl : xs.length = 624) (hi : i < nc S) (ha : AllB xs) : ∃ C, C.length = S + 80 ∧ AllB C ∧ ∀ mk, pgk S xs gen mk i = C ++ mk := by
  refine ⟨sec S xs i ++ (hb 4 (i : Int) 0 (nc S : Int) gen 0 ++ (inv (hb 4 (i : Int) 0 (nc S : Int) gen 0) ++ List.replicate 32 255)), ?_, ?_, fun mk => by simp [pgk, kend, hend]⟩
  · simp [sec_len h1 h2 hl hi, hb_len, inv_len]
  · have hr := hb_all (rh_k h1 h2 hi) (nc S : Int) gen 0
    exact allB_app (sec_all ha i) (allB_app hr (allB_app (inv_all _ hr) (allB_replicate 255 _ (by omega))))
def Wst (P S k : Nat) (xs : List Int) (gen : Int) (i : Nat) (s : St) : Prop :=
  off s = false ∧ scr s k = false ∧ lsp s k = (i : Int) - 1 ∧ (∀ j, j < i → pgs s k j = pgk S xs gen (List.replicate 8 255) j ∧ usd s k j = 1) ∧ ∀ j, i ≤ j → j < P → pgs s k j = List.replicate (S + 88) 255 ∧ usd s k j = 0
theorem wst_zero {P S k : Nat} {xs : List Int} {gen : Int} {s : St} (h : Fsh P (S + 88) s k) (ho : off s = false) : Wst P S k xs gen 0 s := ⟨ho, h.2.2, h.2.1, fun _ hj => absurd hj (Nat.not_lt_zero _), fun j _ hj => h.1 j hj⟩
def Dne (S k : Nat) (xs : List Int) (gen : Int) (s : St) : Prop := Hd S (pgs s k) ∧ hg S (pgs s k) = gen ∧ hrec S (pgs s k) = xs
def Wot (S k : Nat) (xs : List Int) (gen : Int) (s : St) (a : Int) : Prop :=
  (a = 0 ∧ off s = false ∧ Dne S k xs gen s) ∨ (a = 4 ∧ (¬ Kcm S (pgs s k (nc S - 1)) ∨ Dne S k xs gen s)) ∨ (a = 5 ∧ off s = false ∧ ¬ Kcm S (pgs s k (nc S - 1)))
theorem kps_255 (S : Nat) (xs : List Int) (gen : Int) (i : Nat) (hi : i < nc S) : (kps S xs gen (List.replicate 8 255)).getD i [] = pgk S xs gen (List.replicate 8 255) i := by
  rw [kps_at i hi]
  split <;> rfl
theorem pgk_wf {S i : Nat} {xs : List Int} {gen : Int} (h1 : 32 ≤ S) (h2 : S ≤ 4096) (hl : xs.length = 624) (ha : AllB xs) (hi : i < nc S) {mk : List Int} (hm : mk.length = 8) (am : AllB mk) : (pgk S xs gen mk i).length = S + 88 ∧ AllB (pgk S xs gen mk i) := by
  obtain ⟨C, c1, c2, c3⟩ := pgk_parts (gen := gen) h1 h2 hl hi ha
  rw [c3]
  exact ⟨by simp [c1, hm], allB_app c2 am⟩
theorem pgk_bit {S i : Nat} {xs : List Int} {gen : Int} (h1 : 32 ≤ S) (h2 : S ≤ 4096) (hl : xs.length = 624) (ha : AllB xs) (hi : i < nc S) (t : Nat) (h3 : 8 * (S + 80) ≤ t) (h4 : t < 8 * (S + 88)) : hs (pgk S xs gen (List.replicate 8 255) i) t = true := by
  obtain ⟨C, c1, c2, c3⟩ := pgk_parts (gen := gen) h1 h2 hl hi ha
  rw [c3, hs_app, c1, if_neg (by omega), hs_rep255 _ _ (by omega)]
theorem pno_ok {N P T : Nat} {s : St} {k p : Nat} {d : List Int} (ho : off s = false) (hk : k < N) (hp : p < P) (hd : d.length = T) (hc : scr s k = false) (hu : usd s k p < 2) (hq : ¬ (usd s k p = 0 ∧ (p : Int) ≤ lsp s k)) : pno N P T s (k : Int) (p : Int) d = none := by
  unfold pno
  rw [if_neg (by rw [ho]; exact Bool.false_ne_true), if_neg (fun z => z ⟨by omega, by omega, by omega, by omega, hd⟩), Int.toNat_natCast, Int.toNat_natCast, if_neg (fun z => ?_), if_neg hq]
  rcases z with z | z
  · rw [hc] at z; exact Bool.false_ne_true z
  · omega
theorem wst_prg {N P S k i : Nat} {pl : Pln} {xs : List Int} {gen : Int} {s : St} (h1 : 32 ≤ S) (h2 : S ≤ 4096) (hl : xs.length = 624) (ha : AllB xs) (hP : nc S ≤ P) (hk : k < N) (hi : i < nc S) (h : Wst P S k xs gen i s) :
    prg N P (S + 88) pl s k i (pgk S xs gen (List.replicate 8 255) i) = (pdo (S + 88) pl s k i (pgk S xs gen (List.replicate 8 255) i), ans (pl (ops s))) := by
  have w := pgk_wf (gen := gen) h1 h2 hl ha hi (mk := List.replicate 8 255) (by simp) (allB_replicate 255 _ (by omega))
  have b := h.2.2.2.2 i (Nat.le_refl _) (by omega)
  unfold prg
  rw [pno_ok h.1 hk (by omega) w.1 h.2.1 (by rw [b.2]; omega) (fun z => by have := h.2.2.1; omega)]
theorem pdo_pgs {T k p j : Nat} {pl : Pln} {s : St} {d : List Int} : pgs (pdo T pl s k p d) k j = if j = p then pgm T (pl (ops s)) (pgs s k p) d else pgs s k j := by
  show at2 (pgs s) k p _ k j = _
  unfold at2
  by_cases e : j = p
  · rw [if_pos ⟨rfl, e⟩, if_pos e]
  · rw [if_neg fun z => e z.2, if_neg e]
theorem pdo_usd {T k p j : Nat} {pl : Pln} {s : St} {d : List Int} : usd (pdo T pl s k p d) k j = if j = p then usd s k p + 1 else usd s k j := by
  show at2 (usd s) k p _ k j = _
  unfold at2
  by_cases e : j = p
  · rw [if_pos ⟨rfl, e⟩, if_pos e]
  · rw [if_neg fun z => e z.2, if_neg e]
theorem wst_next {P S k i : Nat} {pl : Pln} {xs : List Int} {gen : Int} {s : St} (h1 : 32 ≤ S) (h2 : S ≤ 4096) (hl : xs.length = 624) (ha : AllB xs) (hP : nc S ≤ P) (hi : i < nc S) (h : Wst P S k xs gen i s) (hn : pl (ops s) = none) :
    Wst P S k xs gen (i + 1) (pdo (S + 88) pl s k i (pgk S xs gen (List.replicate 8 255) i)) := by
  have w := pgk_wf (gen := gen) h1 h2 hl ha hi (mk := List.replicate 8 255) (by simp) (allB_replicate 255 _ (by omega))
  have b := h.2.2.2.2 i (Nat.le_refl _) (by omega)
  refine ⟨?_, h.2.1, ?_, fun j hj => ?_, fun j hj hp => ?_⟩
  · show crs (pl (ops s)) = false
    rw [hn]; rfl
  · show at1 (lsp s) k (max (lsp s k) (i : Int)) k = _
    rw [at1_same, h.2.2.1]
    omega
  · rw [pdo_pgs, pdo_usd]
    by_cases e : j = i
    · subst e
      rw [if_pos rfl, if_pos rfl, hn, b.1, b.2]
      exact ⟨pgm_blank w.1 w.2, rfl⟩
    · rw [if_neg e, if_neg e]
      exact h.2.2.2.1 j (by omega)
  · rw [pdo_pgs, pdo_usd, if_neg (by omega), if_neg (by omega)]
    exact h.2.2.2.2 j (by omega) hp
theorem wst_stop {P S k i : Nat} {pl : Pln} {xs : List Int} {gen : Int} {s : St} (h1 : 32 ≤ S) (h2 : S ≤ 4096) (hl : xs.length = 624) (ha : AllB xs) (hP : nc S ≤ P) (hi : i < nc S) (h : Wst P S k xs gen i s) :
    ¬ Kcm S (pgs (pdo (S + 88) pl s k i (pgk S xs gen (List.replicate 8 255) i)) k (nc S - 1)) := by
  rw [pdo_pgs]
  by_cases e : nc S - 1 = i
  · rw [if_pos e, (h.2.2.2.2 i (Nat.le_refl _) (by omega)).1]
    exact pgm_open _ (pgk_bit h1 h2 hl ha hi _ (Nat.le_refl _) (by omega))
  · rw [if_neg e, (h.2.2.2.2 (nc S - 1) (by omega) (by omega)).1]
    exact blank_open S
theorem dne_of {S k : Nat} {xs : List Int} {gen : Int} {s : St} (h1 : 32 ≤ S) (h2 : S ≤ 4096) (hl : xs.length = 624) (hg0 : 0 ≤ gen ∧ gen ≤ 18446744073709551615) (h : ∀ j, j + 1 < nc S → pgs s k j = pgk S xs gen (List.replicate 8 255) j) (hm : pgs s k (nc S - 1) = pgk S xs gen (List.replicate 8 0) (nc S - 1)) : Dne S k xs gen s := by
  have n := nc_le h1 h2
  have z := hd_of (S := S) (f := pgs s k) (ls := kps S xs gen (List.replicate 8 0)) n.1 fun j hj => by
    rw [kps_at j hj]
    by_cases e : j + 1 = nc S
    · rw [if_pos e, show j = nc S - 1 by omega, hm]
    · rw [if_neg e, h j (by omega)]
  have q := kps_hold (xs := xs) (gen := gen) h1 h2 hl hg0
  exact ⟨(z.2.2 (by rw [kps_len]; exact Nat.le_refl _)).2 q.1, z.1.trans q.2.1, z.2.1.trans q.2.2⟩
theorem wst_mark {N P S k : Nat} {pl : Pln} {xs : List Int} {gen : Int} {s : St} (h1 : 32 ≤ S) (h2 : S ≤ 4096) (hl : xs.length = 624) (ha : AllB xs) (hg0 : 0 ≤ gen ∧ gen ≤ 18446744073709551615) (hP : nc S ≤ P) (hk : k < N) (h : Wst P S k xs gen (nc S) s) :
    prg N P (S + 88) pl s k (nc S - 1) (he.mark (S + 88)) = (pdo (S + 88) pl s k (nc S - 1) (he.mark (S + 88)), ans (pl (ops s))) ∧ Wot S k xs gen (pdo (S + 88) pl s k (nc S - 1) (he.mark (S + 88))) (ans (pl (ops s))) := by
  have n := nc_le h1 h2
  have b := h.2.2.2.1 (nc S - 1) (by omega)
  refine ⟨?_, ?_⟩
  · unfold prg
    rw [pno_ok h.1 hk (by omega) (mark_len _ (by omega)) h.2.1 (by rw [b.2]; omega) (fun z => by omega)]
  · obtain ⟨C, c1, c2, c3⟩ := pgk_parts (gen := gen) h1 h2 hl (show nc S - 1 < nc S by omega) ha
    have hj : ∀ j, j + 1 < nc S → pgs (pdo (S + 88) pl s k (nc S - 1) (he.mark (S + 88))) k j = pgk S xs gen (List.replicate 8 255) j := fun j hj => by
      rw [pdo_pgs, if_neg (by omega)]
      exact (h.2.2.2.1 j (by omega)).1
    have hp : pgs (pdo (S + 88) pl s k (nc S - 1) (he.mark (S + 88))) k (nc S - 1) = pgm (S + 88) (pl (ops s)) (C ++ List.replicate 8 255) (he.mark (S + 88)) := by
      rw [pdo_pgs, if_pos rfl, b.1, c3]
    have a8 := allB_replicate 255 8 (by omega)
    have hd : pgm (S + 88) (pl (ops s)) (C ++ List.replicate 8 255) (he.mark (S + 88)) = C ++ List.replicate 8 0 → Dne S k xs gen (pdo (S + 88) pl s k (nc S - 1) (he.mark (S + 88))) := fun e => dne_of h1 h2 hl hg0 hj (by rw [hp, e, c3])
    match hq : pl (ops s) with
    | none =>
      refine .inl ⟨rfl, ?_, hd (by rw [hq]; exact pgm_whole c1 c2 (by simp) a8)⟩
      show crs (pl (ops s)) = false
      rw [hq]; rfl
    | some (true, m) =>
      refine .inr (.inl ⟨rfl, ?_⟩)
      by_cases q : Kcm S (pgm (S + 88) (pl (ops s)) (C ++ List.replicate 8 255) (he.mark (S + 88)))
      · exact .inr (hd (pgm_mark _ c1 c2 (by simp) a8 q))
      · exact .inl (by rw [hp]; exact q)
    | some (false, m) =>
      refine .inr (.inr ⟨rfl, ?_, ?_⟩)
      · show crs (pl (ops s)) = false
        rw [hq]; rfl
      · rw [hp, hq]
        refine pgm_fail ?_
        rw [hs_app, c1, if_neg (by omega), hs_rep255 _ _ (by omega)]
theorem wri_out {N P S k : Nat} {pl : Pln} {xs : List Int} {gen : Int} (h1 : 32 ≤ S) (h2 : S ≤ 4096) (hl : xs.length = 624) (ha : AllB xs) (hg0 : 0 ≤ gen ∧ gen ≤ 18446744073709551615) (hP : nc S ≤ P) (hk : k < N) : ∀ (m : Nat) (s : St) (i : Nat), i + (m + 1) = nc S + 1 → Wst P S k xs gen i s →
    Wot S k xs gen (wri N P (S + 88) pl (kps S xs gen (List.replicate 8 255)) k (m + 1) s i).1 (wri N P (S + 88) pl (kps S xs gen (List.replicate 8 255)) k (m + 1) s i).2
  | 0, s, i, hi, h => by
    have n := nc_le h1 h2
    have e : i = nc S := by omega
    subst e
    obtain ⟨e1, e2⟩ := wst_mark (N := N) (pl := pl) h1 h2 hl ha hg0 hP hk h
    have w1 : wpl (kps S xs gen (List.replicate 8 255)) (nc S) = nc S - 1 := by unfold wpl; rw [kps_len]; omega
    have w2 : wth (S + 88) (kps S xs gen (List.replicate 8 255)) (nc S) = he.mark (S + 88) := by unfold wth; rw [kps_len, if_neg (Nat.lt_irrefl _)]
    unfold wri
    rw [w1, w2, e1]
    split
    · rename_i h0
      have h0 : ans (pl (ops s)) = 0 := h0
      rw [h0] at e2
      exact e2
    · exact e2
  | m + 1, s, i, hi, h => by
    have n := nc_le h1 h2
    have hlt : i < nc S := by omega
    have e1 := wst_prg (N := N) (pl := pl) h1 h2 hl ha hP hk hlt h
    have w1 : wpl (kps S xs gen (List.replicate 8 255)) i = i := by unfold wpl; rw [kps_len]; omega
    have w2 : wth (S + 88) (kps S xs gen (List.replicate 8 255)) i = pgk S xs gen (List.replicate 8 255) i := by unfold wth; rw [kps_len, if_pos hlt, kps_255 S xs gen i hlt]
    have st := wst_stop (pl := pl) h1 h2 hl ha hP hlt h
    unfold wri
    rw [w1, w2, e1]
    match hq : pl (ops s) with
    | none =>
      rw [if_pos (by rfl)]
      exact wri_out h1 h2 hl ha hg0 hP hk m _ (i + 1) (by omega) (wst_next h1 h2 hl ha hP hlt h hq)
    | some (true, mm) =>
      rw [if_neg (by show ¬ (4 : Int) = 0; decide)]
      exact .inr (.inl ⟨rfl, .inl st⟩)
    | some (false, mm) =>
      rw [if_neg (by show ¬ (5 : Int) = 0; decide)]
      refine .inr (.inr ⟨rfl, ?_, st⟩)
      show crs (pl (ops s)) = false
      rw [hq]; rfl
end Go.Proofs.YtakibiigcdgohaaGreatDoor.vb
namespace Go.Proofs.YtakibiigcdgohaaGreatDoor.ck
open Go.RowKit Go.Proofs.YtakibiigcdgohaaGreatDoor.fa Go.Proofs.YtakibiigcdgohaaGreatDoor.he Go.Proofs.YtakibiigcdgohaaGreatDoor.pa
set_option maxRecDepth 20000
theorem headof_any (g0 g1 g3 g4 g5 : Int) (S : Nat) (i gen : Int) (w : World) (hr : ge.Rt [g0, g1, (S : Int), g3, g4, g5]) :
    Calls Tryz.prog 82 #[.agg (ints .i64 [g0, g1, (S : Int), g3, g4, g5]), .int .i64 i, .int .u64 gen] w fun x w' => x = .returned (.agg (hv 4 i 0 (nc S : Int) gen 0).toArray) ∧ Below w.heap.size w w' := by
  have SC : Hid (∀ w0, Calls Tryz.prog 79 #[.agg (ints .i64 [g0, g1, (S : Int), g3, g4, g5])] w0 fun x w' => x = .returned (.int .i64 (nc S : Int)) ∧ Below w0.heap.size w0 w') := fun w0 => chunks_nc hr w0
  have ⟨s1, s2⟩ := rt_sec hr
  have hn := nc_le s1 s2
  have z1 : IntKind.u32.wrap (nc S : Int) = (nc S : Int) := by rw [IntKind.wrap_u32]; omega
  generalize (nc S : Int) = N at SC z1 ⊢
  clear hr s1 s2 hn
  have t0 := tR
  go_enter Tryz.func82, Tryz.ntmps82
  go_wp2_with (first
    | (have q4 := t4; (with_reducible refine at_store ?_); refine store_lawC _ (hv 4 i 0 N gen 0) w1.heap.size 0 rfl rfl HV6.out.2 rowy_head.2 (hv_one _ _ _ _ _ _) ?_; intro w4 E9 R9 T9 B9; have K9 : ∀ k, k ≠ w1.heap.size → w4.heap[k]? = w3.heap[k]? := (by rw [E9.out]; exact fun k hk => heap_cells _ _ _ _ k hk); have HB0 : Hid (Vr w4 w.heap.size [.int .i64 g0, .int .i64 g1, .int .i64 (S : Int), .int .i64 g3, .int .i64 g4, .int .i64 g5]) := HB0.out.heap (K9 _ (Nat.ne_of_lt LT_HB0_HV6.out)); have NB_HV6 : Hid (NoB w4 w1.heap.size) := (by rw [E9.out]; exact NB_HV6.out.set HV6.out rfl (hv_nob _ _ _ _ _ _)); have HV6 : Hid (Vr w4 w1.heap.size (hv 4 i 0 N gen 0)) := ⟨R9, T9⟩; have BB : Hid (Below w.heap.size w w4) := BB.out.trans (B9.mono LE_HV6.out); clear hb0_0 hb0_1 hb0_2 hb0_3 hb0_4 hb0_5; have hb0_0 := HB0.out.cell 0 _ rfl; have hb0_1 := HB0.out.cell 1 _ rfl; have hb0_2 := HB0.out.cell 2 _ rfl; have hb0_3 := HB0.out.cell 3 _ rfl; have hb0_4 := HB0.out.cell 4 _ rfl; have hb0_5 := HB0.out.cell 5 _ rfl; clear E9 R9 T9 B9 K9; clear t4; have t5 := tR)
    | (have q3 := t3; refine build_law _ rfl 119 _ rfl (.agg (hv 4 i 0 N gen 0).toArray) (by kernel_rfl) ?_; clear t3; have t4 := tR)
    | (have q2 := t2; go_at_call 79; refine (SC.out w2).mono ?_; rintro e9 w3 ⟨rfl, B9⟩; have HB0 : Hid (Vr w3 w.heap.size [.int .i64 g0, .int .i64 g1, .int .i64 (S : Int), .int .i64 g3, .int .i64 g4, .int .i64 g5]) := HB0.out.below B9 (range_lt HB0.out.1 (Nat.succ_pos _)); have NB_HV6 : Hid (NoB w3 w1.heap.size) := NB_HV6.out.heap (B9.block _ (range_lt HV6.out.1 (Nat.succ_pos _))); have HV6 : Hid (Vr w3 w1.heap.size (hv 0 0 0 0 0 0)) := HV6.out.below B9 (range_lt HV6.out.1 (Nat.succ_pos _)); have BB : Hid (Below w.heap.size w w3) := BB.out.trans (B9.mono BB.out.size); clear hb0_0 hb0_1 hb0_2 hb0_3 hb0_4 hb0_5; have hb0_0 := HB0.out.cell 0 _ rfl; have hb0_1 := HB0.out.cell 1 _ rfl; have hb0_2 := HB0.out.cell 2 _ rfl; have hb0_3 := HB0.out.cell 3 _ rfl; have hb0_4 := HB0.out.cell 4 _ rfl; have hb0_5 := HB0.out.cell 5 _ rfl; clear B9; clear t2; have t3 := tR)
    | (have q1 := t1; (with_reducible refine at_alloc ?_); refine new_lawN _ (hv 0 0 0 0 0 0) zero_head (hv_nob _ _ _ _ _ _) ?_; intro w2 X9 N9 B9; have LT_HB0_HV6 : Hid (w.heap.size < w1.heap.size) := range_lt HB0.out.1 (Nat.succ_pos _); have LE_HV6 : Hid (w.heap.size ≤ w1.heap.size) := BB.out.size; have HB0 : Hid (Vr w2 w.heap.size [.int .i64 g0, .int .i64 g1, .int .i64 (S : Int), .int .i64 g3, .int .i64 g4, .int .i64 g5]) := HB0.out.below B9 (range_lt HB0.out.1 (Nat.succ_pos _)); have HV6 : Hid (Vr w2 w1.heap.size (hv 0 0 0 0 0 0)) := X9; have NB_HV6 : Hid (NoB w2 w1.heap.size) := N9; have BB : Hid (Below w.heap.size w w2) := BB.out.trans (B9.mono BB.out.size); clear hb0_0 hb0_1 hb0_2 hb0_3 hb0_4 hb0_5; have hb0_0 := HB0.out.cell 0 _ rfl; have hb0_1 := HB0.out.cell 1 _ rfl; have hb0_2 := HB0.out.cell 2 _ rfl; have hb0_3 := HB0.out.cell 3 _ rfl; have hb0_4 := HB0.out.cell 4 _ rfl; have hb0_5 := HB0.out.cell 5 _ rfl; clear X9 N9 B9; clear t1; have t2 := tR)
    | (have q0 := t0; refine box_lawC _ [.int .i64 g0, .int .i64 g1, .int .i64 (S : Int), .int .i64 g3, .int .i64 g4, .int .i64 g5] rfl ?_; intro w1 X9 B9 l9; have HB0 : Hid (Vr w1 w.heap.size [.int .i64 g0, .int .i64 g1, .int .i64 (S : Int), .int .i64 g3, .int .i64 g4, .int .i64 g5]) := X9; have BB : Hid (Below w.heap.size w w1) := B9; have hb0_0 := HB0.out.cell 0 _ rfl; have hb0_1 := HB0.out.cell 1 _ rfl; have hb0_2 := HB0.out.cell 2 _ rfl; have hb0_3 := HB0.out.cell 3 _ rfl; have hb0_4 := HB0.out.cell 4 _ rfl; have hb0_5 := HB0.out.cell 5 _ rfl; clear X9 B9 l9; clear t0; have t1 := tR))
  exact bodyPost_ret (v := .agg (hv 4 i 0 N gen 0).toArray) (results_c rfl _ _ w1.heap.size _ rowy_head rfl HV6.out.1) rfl ⟨rfl, BB.out⟩
end Go.Proofs.YtakibiigcdgohaaGreatDoor.ck
namespace Go.Proofs.YtakibiigcdgohaaGreatDoor.ck
open Go.RowKit Go.Proofs.YtakibiigcdgohaaGreatDoor.fa Go.Proofs.YtakibiigcdgohaaGreatDoor.he Go.Proofs.YtakibiigcdgohaaGreatDoor.pa
set_option maxRecDepth 20000
def secs (S : Nat) (xs : List Int) : List (List Int) := (List.range (nc S)).map (sec S xs)
theorem secs_len (S : Nat) (xs : List Int) : (secs S xs).length = nc S := by simp [secs]
theorem secs_at (S : Nat) (xs : List Int) (i : Nat) (h : i < nc S) : (secs S xs).getD i [] = sec S xs i := by simp [secs, List.getD, h]
theorem sectors_any (g0 g1 g3 g4 g5 : Int) (S : Nat) (v : Value) (xs : List Int) (w : World) (hb : Byt w v xs) (hl : xs.length = 624) (hr : ge.Rt [g0, g1, (S : Int), g3, g4, g5]) :
    Calls Tryz.prog 89 #[.agg (ints .i64 [g0, g1, (S : Int), g3, g4, g5]), v] w fun x w' => ∃ r, x = .returned r ∧ Pgs w' r (secs S xs) ∧ Below w.heap.size w w' := by
  have ⟨s1, s2⟩ := rt_sec hr
  have hn := nc_le s1 s2
  have SC : Hid (∀ w0, Calls Tryz.prog 79 #[.agg (ints .i64 [g0, g1, (S : Int), g3, g4, g5])] w0 fun x w' => x = .returned (.int .i64 (nc S : Int)) ∧ Below w0.heap.size w0 w') := fun w0 => chunks_nc hr w0
  have SF : Hid (∀ w0, Calls Tryz.prog 114 #[.int .u8 255, .int .i64 (((nc S * S : Nat) : Int) - 624)] w0 fun e w' => ∃ v, e = .returned v ∧ Byt w' v (List.replicate (nc S * S - 624) 255) ∧ Below w0.heap.size w0 w') := fun w0 => by
    have z := fill_any 255 (((nc S * S : Nat) : Int) - 624) w0 (by omega)
    rw [show clamp (((nc S * S : Nat) : Int) - 624) 65536 = nc S * S - 624 by unfold clamp; omega] at z
    exact z
  have SX : Hid (∀ w1 c fv, Byt w1 fv (List.replicate (nc S * S - 624) 255) → Vr w1 c [v, fv] → Below w.heap.size w w1 → Calls Tryz.prog 113 #[.slice (some ⟨c, 0, none⟩) 2 2] w1 fun e w' => ∃ r, e = .returned r ∧ Own w1.heap.size w' r (pd S xs) ∧ Below w1.heap.size w1 w') := fun w1 c fv hf hV hB => by
    have e : cats [xs, List.replicate (nc S * S - 624) 255] 2 = pd S xs := by simp [cats, pd]
    have z := concat_any c 2 (fun k => ([v, fv] : List Value).getD k undef) [xs, List.replicate (nc S * S - 624) 255] w1 rfl (by omega) (fun k hk => by
      match k, hk with
      | 0, _ => exact hb.below hB
      | 1, _ => exact hf) (fun k hk => by
      have hk : k < 2 := hk
      match k, hk with
      | 0, _ => show xs.length ≤ 10000; omega
      | 1, _ => show (List.replicate (nc S * S - 624) (255 : Int)).length ≤ 10000; rw [List.length_replicate]; omega) (by rw [e, pd_len s1 s2 hl]; omega) (fun k hk => by
      match k, hk with
      | 0, _ => exact hV.cell 0 _ rfl
      | 1, _ => exact hV.cell 1 _ rfl)
    rwa [e] at z
  have XL : Hid ((pd S xs).length = nc S * S) := pd_len s1 s2 hl
  have XA : Hid (AllB (pd S xs)) := pd_all hb.all
  have XS : Hid (∀ i, i < nc S → sub (pd S xs) (i * S) (i * S + S) = (secs S xs).getD i []) := fun i hi => by rw [secs_at S xs i hi]; rfl
  have SE : Hid (∀ i, i < nc S → i * S + S ≤ nc S * S) := fun i hi => sec_end hi
  have SL : Hid ((secs S xs).length = nc S) := secs_len S xs
  obtain ⟨ao, cap, rfl⟩ := byt_form hb hl
  generalize secs S xs = ss at XS SL ⊢
  generalize pd S xs = X at SX XL XA XS
  generalize List.replicate (nc S * S - 624) (255 : Int) = F at SF SX
  have hM : (nc S : Int) * (S : Int) = ((nc S * S : Nat) : Int) := (Int.natCast_mul _ _).symm
  generalize nc S * S = M at SF XL SE hM hn
  generalize nc S = N at SC XS SE SL hM hn
  have NL : Hid (N ≤ 1000000) := (by show N ≤ 1000000; omega)
  have SP : Hid (0 < S) := (by show 0 < S; omega)
  have m1 : (624 : Int) ≤ (M : Int) := by omega
  have m2 : (M : Int) ≤ 10000 := by omega
  have n20 : N ≤ 20 := hn.2.1
  have s4 : S ≤ 4096 := s2
  clear hr hb hl hn s1 s2
  have t0 := tR
  go_enter Tryz.func89, Tryz.ntmps89
  go_wp2_with (first
    | (have q5 := t5; at_make; have HXm := HX; have HB0m := HB0; have BW := BB; refine make_lawR _ rfl _ _ rfl _ N rfl rfl rfl NL.out ?_; intro w6 v9 n9 B9; have HB0 : Hid (Vr w6 w.heap.size [.int .i64 g0, .int .i64 g1, .int .i64 (S : Int), .int .i64 g3, .int .i64 g4, .int .i64 g5]) := HB0.out.below B9 (range_lt HB0.out.1 (Nat.succ_pos _)); have HF : Hid (Byt w6 fv F) := HF.out.below B9; have HT : Hid (Vr w6 w3.heap.size [.slice ao 624 cap, fv]) := HT.out.below B9 (range_lt HT.out.1 (Nat.succ_pos _)); have HX : Hid (Byt w6 r X) := HX.out.below B9; have HR : Hid (Vr w6 w5.heap.size (rowk (fun j => slm r (j * S) (j * S + S)) N 0)) := (by show Vr _ _ _; rw [rowk_zero]; exact v9); have NB : Hid (NoB w6 w5.heap.size) := n9; have BL : Hid (Below w5.heap.size w5 w6) := B9; have BB : Hid (Below w.heap.size w w6) := BB.out.trans (B9.mono BB.out.size); clear hb0_0 hb0_1 hb0_2 hb0_3 hb0_4 hb0_5; have hb0_0 := HB0.out.cell 0 _ rfl; have hb0_1 := HB0.out.cell 1 _ rfl; have hb0_2 := HB0.out.cell 2 _ rfl; have hb0_3 := HB0.out.cell 3 _ rfl; have hb0_4 := HB0.out.cell 4 _ rfl; have hb0_5 := HB0.out.cell 5 _ rfl; clear HX HB0; have HX := HXm; have HB0 := HB0m; clear HXm HB0m; clear B9 v9 n9; clear t5; have t6 := tR)
    | (have q4 := t4; go_at_call 113; refine (SX.out w4 _ fv HF.out HT.out BB.out).mono ?_; rintro e9 w5 ⟨r, rfl, o9, B9⟩; have HB0 : Hid (Vr w5 w.heap.size [.int .i64 g0, .int .i64 g1, .int .i64 (S : Int), .int .i64 g3, .int .i64 g4, .int .i64 g5]) := HB0.out.below B9 (range_lt HB0.out.1 (Nat.succ_pos _)); have HF : Hid (Byt w5 fv F) := HF.out.below B9; have HT : Hid (Vr w5 w3.heap.size [.slice ao 624 cap, fv]) := HT.out.below B9 (range_lt HT.out.1 (Nat.succ_pos _)); have HX : Hid (Byt w5 r X) := o9.byt XA.out; have BB : Hid (Below w.heap.size w w5) := BB.out.trans (B9.mono BB.out.size); clear hb0_0 hb0_1 hb0_2 hb0_3 hb0_4 hb0_5; have hb0_0 := HB0.out.cell 0 _ rfl; have hb0_1 := HB0.out.cell 1 _ rfl; have hb0_2 := HB0.out.cell 2 _ rfl; have hb0_3 := HB0.out.cell 3 _ rfl; have hb0_4 := HB0.out.cell 4 _ rfl; have hb0_5 := HB0.out.cell 5 _ rfl; clear B9 o9; clear t4; have t5 := tR)
    | (have q3 := t3; refine two_lawK _ rfl (.tmp 13) (.tmp 21) rfl (.slice ao 624 cap) fv ⟨_, _, _, rfl⟩ (sle_byt HF.out) rfl rfl ?_; intro w4 v9 B9; have HB0 : Hid (Vr w4 w.heap.size [.int .i64 g0, .int .i64 g1, .int .i64 (S : Int), .int .i64 g3, .int .i64 g4, .int .i64 g5]) := HB0.out.below B9 (range_lt HB0.out.1 (Nat.succ_pos _)); have HF : Hid (Byt w4 fv F) := HF.out.below B9; have HT : Hid (Vr w4 w3.heap.size [.slice ao 624 cap, fv]) := v9; have BB : Hid (Below w.heap.size w w4) := BB.out.trans (B9.mono BB.out.size); clear hb0_0 hb0_1 hb0_2 hb0_3 hb0_4 hb0_5; have hb0_0 := HB0.out.cell 0 _ rfl; have hb0_1 := HB0.out.cell 1 _ rfl; have hb0_2 := HB0.out.cell 2 _ rfl; have hb0_3 := HB0.out.cell 3 _ rfl; have hb0_4 := HB0.out.cell 4 _ rfl; have hb0_5 := HB0.out.cell 5 _ rfl; clear B9 v9; clear t3; have t4 := tR)
    | (have q2 := t2; go_at_call 114; refine (SF.out w2).mono ?_; rintro e9 w3 ⟨fv, rfl, y9, B9⟩; have HB0 : Hid (Vr w3 w.heap.size [.int .i64 g0, .int .i64 g1, .int .i64 (S : Int), .int .i64 g3, .int .i64 g4, .int .i64 g5]) := HB0.out.below B9 (range_lt HB0.out.1 (Nat.succ_pos _)); have HF : Hid (Byt w3 fv F) := y9; have BB : Hid (Below w.heap.size w w3) := BB.out.trans (B9.mono BB.out.size); clear hb0_0 hb0_1 hb0_2 hb0_3 hb0_4 hb0_5; have hb0_0 := HB0.out.cell 0 _ rfl; have hb0_1 := HB0.out.cell 1 _ rfl; have hb0_2 := HB0.out.cell 2 _ rfl; have hb0_3 := HB0.out.cell 3 _ rfl; have hb0_4 := HB0.out.cell 4 _ rfl; have hb0_5 := HB0.out.cell 5 _ rfl; clear B9 y9; clear t2; have t3 := tR)
    | (have q1 := t1; go_at_call 79; refine (SC.out w1).mono ?_; rintro e9 w2 ⟨rfl, B9⟩; have HB0 : Hid (Vr w2 w.heap.size [.int .i64 g0, .int .i64 g1, .int .i64 (S : Int), .int .i64 g3, .int .i64 g4, .int .i64 g5]) := HB0.out.below B9 (range_lt HB0.out.1 (Nat.succ_pos _)); have BB : Hid (Below w.heap.size w w2) := BB.out.trans (B9.mono BB.out.size); clear hb0_0 hb0_1 hb0_2 hb0_3 hb0_4 hb0_5; have hb0_0 := HB0.out.cell 0 _ rfl; have hb0_1 := HB0.out.cell 1 _ rfl; have hb0_2 := HB0.out.cell 2 _ rfl; have hb0_3 := HB0.out.cell 3 _ rfl; have hb0_4 := HB0.out.cell 4 _ rfl; have hb0_5 := HB0.out.cell 5 _ rfl; clear B9; clear t1; have t2 := tR)
    | (have q0 := t0; refine box_lawC _ [.int .i64 g0, .int .i64 g1, .int .i64 (S : Int), .int .i64 g3, .int .i64 g4, .int .i64 g5] rfl ?_; intro w1 X9 B9 l9; have HB0 : Hid (Vr w1 w.heap.size [.int .i64 g0, .int .i64 g1, .int .i64 (S : Int), .int .i64 g3, .int .i64 g4, .int .i64 g5]) := X9; have BB : Hid (Below w.heap.size w w1) := B9; have hb0_0 := HB0.out.cell 0 _ rfl; have hb0_1 := HB0.out.cell 1 _ rfl; have hb0_2 := HB0.out.cell 2 _ rfl; have hb0_3 := HB0.out.cell 3 _ rfl; have hb0_4 := HB0.out.cell 4 _ rfl; have hb0_5 := HB0.out.cell 5 _ rfl; clear X9 B9 l9; clear t0; have t1 := tR))
  have BZ : Hid (Below w.heap.size w w5) := BW.out
  go_loopw [28] (fun i wr => ∃ k : Nat, k ≤ N ∧ i = .int .i64 (k : Int) ∧ Vr wr w5.heap.size (rowk (fun j => slm r (j * S) (j * S + S)) N k) ∧ NoB wr w5.heap.size ∧ Below w5.heap.size w5 wr) (fun i _ => N - (intOf i).toNat)
  case atStart => exact ⟨0, Nat.zero_le _, rfl, HR.out, NB.out, BL.out⟩
  case round =>
    obtain ⟨k, hk, rfl, hV, hN, hB⟩ := hrel
    have HV : Hid (Vr wr w5.heap.size (rowk (fun j => slm r (j * S) (j * S + S)) N k)) := hV
    have HN : Hid (NoB wr w5.heap.size) := hN
    have BB : Hid (Below w5.heap.size w5 wr) := hB
    clear hV hN hB HR NB BL
    by_cases hlt : k < N
    · have lk : (k : Int) < (N : Int) := by omega
      obtain ⟨p0, e0⟩ : ∃ z : Nat, z = k * S := ⟨_, rfl⟩
      obtain ⟨p1, e1⟩ : ∃ z : Nat, z = k * S + S := ⟨_, rfl⟩
      have e2 : (k + 1) * S = p1 := by rw [e1, Nat.succ_mul]
      have m0 : Hid (IntKind.i64.wrap ((k : Int) * (S : Int)) = (p0 : Int)) := (by show _ = _; rw [e0]; exact wrap_mul (by omega) s4)
      have m1' : Hid (IntKind.i64.wrap ((k : Int) + 1) = (k : Int) + 1) := wrap_small ⟨by omega, by omega⟩
      have m2' : Hid (IntKind.i64.wrap (((k : Int) + 1) * (S : Int)) = (p1 : Int)) := (by show _ = _; rw [← e2]; have z := wrap_mul (k := k + 1) (S := S) (by omega) s4; rw [show ((k + 1 : Nat) : Int) = (k : Int) + 1 by omega] at z; exact z)
      have pl : Hid (p0 ≤ p1 ∧ p1 ≤ X.length) := ⟨by omega, by rw [XL.out, e1]; exact SE.out k hlt⟩
      have pe : Hid (slm r p0 p1 = slm r (k * S) (k * S + S)) := (by rw [e0, e1]; exact rfl)
      clear e0 e1 e2
      go_wp2
      have HV : Hid (Vr wr.drew w5.heap.size (rowk (fun j => slm r (j * S) (j * S + S)) N k)) := HV.out.drewN 1
      have HN : Hid (NoB wr.drew w5.heap.size) := HN.out
      refine wp_region_held_drew (S := fun w' => Below w5.heap.size w5 w') (by kernel_rfl) BB.out.drew (fun hS => ?_)
      obtain ⟨x1, hx0⟩ : ∃ x, x = wr.drew := ⟨_, rfl⟩
      rw [← hx0] at hS HV HN ⊢
      clear hx0
      refine tkH 0 (some 31) (.int .i64 (k : Int)) rfl rfl (Or.inl ⟨by rfl, fun w' hw' => by rfl⟩) hS ?_
      simp only [Act.put, zE1, zE2, zE3]
      refine tkH 1 (some 32) (.pointer (some ⟨w.heap.size, 2, none⟩)) rfl rfl (Or.inl ⟨by rfl, fun w' hw' => by go_simp⟩) hS ?_
      simp only [Act.put, zE1, zE2, zE3]
      refine tkH 2 (some 33) (.int .i64 (S : Int)) rfl rfl (Or.inl ⟨by rfl, fun w' hw' => by exact exec_loadN 3 (.tmp 32) rfl _ rfl _ _ (ld_int ((HB0.out.below hw' (range_lt HB0.out.1 (Nat.succ_pos _))).cell 2 _ rfl))⟩) hS ?_
      simp only [Act.put, zE1, zE2, zE3]
      refine tkH 3 (some 34) (.int .i64 (p0 : Int)) rfl rfl (Or.inl ⟨by rfl, fun w' hw' => by exact exec_mul (.tmp 31) (.tmp 33) rfl (k : Int) (S : Int) _ rfl rfl m0.out⟩) hS ?_
      simp only [Act.put, zE1, zE2, zE3]
      refine tkH 4 (some 35) (.int .i64 (k : Int)) rfl rfl (Or.inl ⟨by rfl, fun w' hw' => by rfl⟩) hS ?_
      simp only [Act.put, zE1, zE2, zE3]
      refine tkH 5 (some 36) (.int .i64 ((k : Int) + 1)) rfl rfl (Or.inl ⟨by rfl, fun w' hw' => by exact exec_add (.tmp 35) (.const (.int .i64 1)) rfl (k : Int) 1 _ rfl rfl m1'.out⟩) hS ?_
      simp only [Act.put, zE1, zE2, zE3]
      refine tkH 6 (some 37) (.pointer (some ⟨w.heap.size, 2, none⟩)) rfl rfl (Or.inl ⟨by rfl, fun w' hw' => by go_simp⟩) hS ?_
      simp only [Act.put, zE1, zE2, zE3]
      refine tkH 7 (some 38) (.int .i64 (S : Int)) rfl rfl (Or.inl ⟨by rfl, fun w' hw' => by exact exec_loadN 3 (.tmp 37) rfl _ rfl _ _ (ld_int ((HB0.out.below hw' (range_lt HB0.out.1 (Nat.succ_pos _))).cell 2 _ rfl))⟩) hS ?_
      simp only [Act.put, zE1, zE2, zE3]
      refine tkH 8 (some 39) (.int .i64 (p1 : Int)) rfl rfl (Or.inl ⟨by rfl, fun w' hw' => by exact exec_mul (.tmp 36) (.tmp 38) rfl ((k : Int) + 1) (S : Int) _ rfl rfl m2'.out⟩) hS ?_
      simp only [Act.put, zE1, zE2, zE3]
      refine tkH 9 (some 9) (.int .i64 (p0 : Int)) rfl rfl (Or.inl ⟨by rfl, fun w' hw' => by rfl⟩) hS ?_
      simp only [Act.put, zE1, zE2, zE3]
      refine tkH 10 (some 10) (.int .i64 (p1 : Int)) rfl rfl (Or.inl ⟨by rfl, fun w' hw' => by rfl⟩) hS ?_
      simp only [Act.put, zE1, zE2, zE3]
      refine wpAnyH_done (by kernel_rfl) ?_ _
      have t50 := tR
      go_wp2_with (first
        | (have q51 := t51; (with_reducible refine at_store ?_); refine set_lawK _ (rowk (fun j => slm r (j * S) (j * S + S)) N k) w5.heap.size k (slm r p0 p1) rfl rfl HV.out HN.out (by rw [rowk_len]; exact hlt) (by obtain ⟨ao, n, c, e⟩ := slm_sle HX.out p0 p1; rw [e]; rfl) (by obtain ⟨ao, n, c, e⟩ := slm_sle HX.out p0 p1; rw [e]; rfl) (by obtain ⟨ao, n, c, e⟩ := slm_sle HX.out p0 p1; rw [e]; intro y z; cases z) one_bytes.2 ?_; intro wz v9 n9 B9 k9; have HV2 : Hid (Vr wz w5.heap.size (rowk (fun j => slm r (j * S) (j * S + S)) N (k + 1))) := (by have z := v9; rw [pe.out] at z; rw [← rowk_set]; exact z); have HN2 : Hid (NoB wz w5.heap.size) := n9; have BZ : Hid (Below w5.heap.size w5 wz) := hS.trans B9; clear v9 n9 B9 k9 hS; clear t51; have t52 := tR)
        | (have q50 := t50; refine cut_max _ rfl (.tmp 42) (.tmp 43) (.tmp 44) (.tmp 45) rfl r X p0 p1 rfl rfl rfl rfl pl.out.1 pl.out.2 (HX.out.below hS) ?_; clear t50; have t51 := tR))
      go_roundw
      case rel => exact ⟨k + 1, by omega, by go_num, HV2.out, HN2.out, BZ.out⟩
      case measure => simp [intOf]; omega
    · have ek : k = N := by omega
      subst ek
      go_wp2
      go_ret
      have hx := HX.out.below BB.out
      refine ⟨_, rfl, ?_, BZ.out.trans (BB.out.mono BZ.out.size)⟩
      have z := pgs_of (ls := ss) HV.out (by rw [rowk_len, SL.out]) (by rw [SL.out]; exact NL.out) (fun i hi => by
        rw [SL.out] at hi
        rw [← XS.out i hi, show (rowk (fun j => slm r (j * S) (j * S + S)) k k).getD i undef = slm r (i * S) (i * S + S) by rw [List.getD_eq_getElem?_getD, rowk_at _ _ _ i hi hi]; rfl]
        exact slm_byt hx _ _ (by have := SP.out; omega) (by rw [XL.out]; exact SE.out i hi))
      rw [SL.out] at z
      exact z
end Go.Proofs.YtakibiigcdgohaaGreatDoor.ck
