/- What the library's IndexFunc answers of places; clear of places. No claim of its own. -/
import Derived.Test.YtedmmpognhpbdaaJSrt
namespace Go.Proofs.Ytedmmpognhpbdaa.pm
open Go.RowKit Go.Proofs.Ytedmmpognhpbdaa.he
set_option maxRecDepth 20000

/-- the closure tells q of any place, wherever only C holds -/
def Tl (C : World → Prop) (bx : Nat) (q : PL → Bool) : Prop := ∀ W, C W → ∀ p, Calls Try.prog 56 #[.agg (pc p).toArray, pt bx] W fun e W' => e = .returned (.bool (q p)) ∧ Below W.heap.size W W'
theorem two {w : World} {b i : Nat} {x : PL} (h : At w b (i * 2) (pc x)) : w.cell? ⟨b, i * 2, none⟩ = some (.int .i64 x.1) ∧ w.cell? ⟨b, i * 2 + 1, none⟩ = some (.int .i64 x.2) := ⟨h.1 0 _ rfl, h.1 1 _ rfl⟩
set_option maxHeartbeats 2000000 in
theorem index_any (g cap : Nat) (L : List PL) (q : PL → Bool) (bx : Nat) (w : World) (hR : Rl w g L) (hn : L.length ≤ 100000) (hq : Tl (fun W => Below w.heap.size w W) bx q) : Calls Try.prog 63 #[.slice (some ⟨g, 0, none⟩) L.length cap, .func (.func 56) #[] #[pt bx]] w fun e w' => ∃ r : Int, e = .returned (.int .i64 r) ∧ ((r = -1 ∧ ∀ x ∈ L, q x = false) ∨ ∃ k : Nat, k < L.length ∧ r = k ∧ (∀ x ∈ L.take k, q x = false) ∧ ∀ y, L[k]? = some y → q y = true) ∧ Below w.heap.size w w' := by
  have HR : Hid (Rl w g L) := hR
  have HQ : Hid (Tl (fun W => Below w.heap.size w W) bx q) := hq
  obtain ⟨n, hN⟩ : ∃ n, n = L.length := ⟨_, rfl⟩
  rw [← hN] at hn ⊢
  have NN : Hid (n = L.length) := hN
  clear hR hq hN
  go_enter Try.func63, Try.ntmps63
  go_wp2
  go_loopw [8] (fun i wr => ∃ k : Nat, k ≤ n ∧ i = .int .i64 k ∧ Hid (∀ x ∈ L.take k, q x = false) ∧ Below w.heap.size w wr) (fun i _ => n - (intOf i).toNat)
  case atStart => exact ⟨0, Nat.zero_le _, rfl, by show ∀ x ∈ L.take 0, q x = false; simp, Below.refl _ _⟩
  case round =>
    obtain ⟨k, hk, rfl, HF, hb⟩ := hrel
    have HB : Hid (Below w.heap.size w wr) := hb
    have k0 : (0 : Int) ≤ (k : Int) := by omega
    clear hb
    by_cases hlt : k < n
    · have k1 : (k : Int) < (n : Int) := by omega
      have hkL : k < L.length := by have := NN.out; omega
      obtain ⟨x, hx⟩ : ∃ x, L[k]? = some x := ⟨_, List.getElem?_eq_getElem hkL⟩
      have HX : Hid (L[k]? = some x) := hx
      have nn := two ((HR.out.below HB.out) k x hx)
      clear hx hkL
      cases hv : q x with
      | true =>
        have HC : Hid (∀ W, Below w.heap.size w W → Calls Try.prog 56 #[.agg (pc x).toArray, pt bx] W fun e W' => e = .returned (.bool true) ∧ Below W.heap.size W W') := fun W hW => by rw [← hv]; exact HQ.out W hW x
        have HV : Hid (q x = true) := hv
        clear hv
        go_wp2_with (go_at_call 56; refine (HC.out _ HB.out).mono ?_; rintro e w3 ⟨rfl, B3⟩; have BB : Hid (Below w.heap.size w w3) := HB.out.trans (B3.mono HB.out.size); clear B3)
        go_ret
        exact ⟨_, rfl, .inr ⟨k, by have := NN.out; omega, rfl, HF.out, fun y hy => by have z := HX.out; rw [hy] at z; cases z; exact HV.out⟩, BB.out⟩
      | false =>
        have HC : Hid (∀ W, Below w.heap.size w W → Calls Try.prog 56 #[.agg (pc x).toArray, pt bx] W fun e W' => e = .returned (.bool false) ∧ Below W.heap.size W W') := fun W hW => by rw [← hv]; exact HQ.out W hW x
        have HV : Hid (q x = false) := hv
        clear hv
        go_wp2_with (go_at_call 56; refine (HC.out _ HB.out).mono ?_; rintro e w3 ⟨rfl, B3⟩; have BB : Hid (Below w.heap.size w w3) := HB.out.trans (B3.mono HB.out.size); clear B3)
        go_roundw
        case rel =>
          refine ⟨k + 1, by omega, by go_num, ?_, BB.out⟩
          intro y hy
          rw [List.take_add_one, HX.out] at hy
          simp only [Option.toList_some, List.mem_append, List.mem_singleton] at hy
          rcases hy with hy | rfl
          · exact HF.out y hy
          · exact HV.out
        case measure => simp [intOf]; omega
    · have e : k = n := by omega
      subst e
      go_wp2
      go_ret
      refine ⟨_, rfl, .inl ⟨rfl, fun x hx => HF.out x ?_⟩, HB.out⟩
      rw [NN.out, List.take_length]; exact hx
theorem index_none (ao : Option Addr) (cap : Nat) (v : Value) (w : World) : Calls Try.prog 63 #[.slice ao 0 cap, v] w fun e w' => e = .returned (.int .i64 (-1)) ∧ w' = w := by
  go_enter Try.func63, Try.ntmps63
  go_wp2
  refine wp_loop_rounds 1 ?_
  rw [rounds_succ]
  go_wp2
  go_ret
  exact ⟨rfl, rfl⟩
theorem zeros_place (n : Nat) : (Builtin.zeroCells (Value.agg (pc (0, 0)).toArray).cells n).toList = fl (List.replicate n (0, 0)) := by
  have h : ∀ n, (Builtin.zeroCells (Value.agg (pc (0, 0)).toArray).cells n).toList = List.replicate (n * 2) (Value.int .i64 0) := fun n => by
    have hc : (Value.agg (pc (0, 0)).toArray).cells = #[.int .i64 0, .int .i64 0] := rfl
    rw [hc]
    apply List.ext_getElem
    · simp [Builtin.zeroCells]
    · intro i h1 h2
      simp [Builtin.zeroCells]
      have : i % 2 = 0 ∨ i % 2 = 1 := by omega
      rcases this with e | e <;> simp [e]
  rw [h]
  induction n with
  | zero => rfl
  | succ n ih => rw [List.replicate_succ, Nat.add_mul]; simp only [fl, List.flatMap_cons] at ih ⊢; rw [← ih]; rfl
end Go.Proofs.Ytedmmpognhpbdaa.pm
