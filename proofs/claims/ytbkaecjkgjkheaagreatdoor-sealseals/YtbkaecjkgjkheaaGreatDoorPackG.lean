/- Texts put together (a claim holds few files). No claim of its own. -/
import Derived.Test.YtbkaecjkgjkheaaGreatDoorPackF
import Derived.Test.YtbkaecjkgjkheaaGreatDoorPackC
import Derived.Test.YtbkaecjkgjkheaaGreatDoorPackB
import Derived.Laws.AppendOwnNone
/- A cipher that xts' New made, and what New and isSector answer. No claim of its own. -/
namespace Go.Proofs.YtbkaecjkgjkheaaGreatDoor.xt
open Go.RowKit
set_option maxRecDepth 20000

/-- a cipher that New made: its two keys -/
def Cip (w : World) (c : Nat) (dk tk : List Int) : Prop :=
  ∃ kd kt, w.cell? ⟨c, 0, none⟩ = some (.pointer (some ⟨kd, 0, none⟩)) ∧ w.cell? ⟨c, 1, none⟩ = some (.pointer (some ⟨kt, 0, none⟩)) ∧ KeyA w kd dk ∧ KeyA w kt tk
theorem Cip.lt {w : World} {c : Nat} {dk tk : List Int} (h : Cip w c dk tk) : c < w.heap.size := by
  obtain ⟨kd, kt, h1, -, -, -⟩ := h
  exact World.block_lt_of_cell? w _ h1
theorem Cip.below {w w' : World} {c : Nat} {dk tk : List Int} (h : Cip w c dk tk) (hb : Below w.heap.size w w') : Cip w' c dk tk := by
  have hl := h.lt
  obtain ⟨kd, kt, h1, h2, h3, h4⟩ := h
  refine ⟨kd, kt, ?_, ?_, h3.below hb h3.lt, h4.below hb h4.lt⟩
  · rw [World.cell?_of_block (w := w) (w' := w') (a := ⟨c, 0, none⟩) (hb.block c hl)]; exact h1
  · rw [World.cell?_of_block (w := w) (w' := w') (a := ⟨c, 1, none⟩) (hb.block c hl)]; exact h2
theorem Cip.new {w : World} {kd kt : Nat} {dk tk : List Int} (hd : KeyA w kd dk) (ht : KeyA w kt tk) : Cip (w.alloc (.cells #[.pointer (some ⟨kd, 0, none⟩), .pointer (some ⟨kt, 0, none⟩)] 65)) w.heap.size dk tk := by
  have e : ∀ i, (w.alloc (.cells #[.pointer (some ⟨kd, 0, none⟩), .pointer (some ⟨kt, 0, none⟩)] 65)).cell? ⟨w.heap.size, i, none⟩ = #[Value.pointer (some ⟨kd, 0, none⟩), .pointer (some ⟨kt, 0, none⟩)][i]? := fun i => cell_of_row _ w.heap.size i _ 65 (0, 0) (heap_alloc_last w _)
  have hb : Below w.heap.size w (w.alloc (.cells #[.pointer (some ⟨kd, 0, none⟩), .pointer (some ⟨kt, 0, none⟩)] 65)) := (Below.refl _ _).alloc (Nat.le_refl _) _
  exact ⟨kd, kt, by rw [e]; rfl, by rw [e]; rfl, hd.below hb hd.lt, ht.below hb ht.lt⟩

theorem Own.below {B : Nat} {w w' : World} {v : Value} {xs : List Int} (h : Own B w v xs) (hb : Below w.heap.size w w') : Own B w' v xs :=
  World.ownsRow.kept (row := none) h ⟨hb.os, hb.tape, hb.output, hb.size, fun j hj _ => hb.block j hj⟩ (by cases hv : v.ownBlock <;> simp)

/-- what lies apart from the row that grows stays -/
theorem Byt.grownBy {w w' : World} {v : Value} {xs : List Int} {row : Option Nat} (h : Byt w v xs) (hg : w.grownBy w' row) (hf : v.ownBlock ≠ row) : Byt w' v xs := by
  obtain ⟨ao, cap, rfl, h1, h2, h3, h4, h5⟩ := h
  refine ⟨ao, cap, rfl, h1, h2, h3, h4, fun hp => ?_⟩
  obtain ⟨b, off, rfl, hc⟩ := h5 hp
  refine ⟨b, off, rfl, fun t ht => ?_⟩
  have := hc t ht
  rw [World.cell?_of_block (w := w) (w' := w') (a := ⟨b, off + t, none⟩) (hg.block b (World.block_lt_of_cell? w _ this) hf)]
  exact this
/-- a row that was made later lies apart -/
theorem far_new {B : Nat} {w w' : World} {v v' : Value} {xs ys : List Int} (h : Own B w v xs) (h' : Own w.heap.size w' v' ys) (hy : 0 < ys.length) : v'.ownBlock ≠ v.ownBlock := by
  rcases h'.2 with ⟨-, hn⟩ | ⟨g, cap, cur, rfl, hg, -⟩
  · omega
  · intro e
    have := (World.ownsRow.lt h g e.symm).2
    omega
theorem far_old {w : World} {v : Value} {xs : List Int} (h : Byt w v xs) (hx : 0 < xs.length) (n c : Nat) : v.ownBlock ≠ (Value.slice (some ⟨w.heap.size, 0, none⟩) n c).ownBlock := by
  obtain ⟨ao, cap, rfl, h1, h2, h3, h4, h5⟩ := h
  obtain ⟨b, off, rfl, hc⟩ := h5 hx
  have := World.block_lt_of_cell? w _ (hc 0 hx)
  intro e
  have e' : some b = some w.heap.size := e
  injection e' with e'
  have h6 : b < w.heap.size := this
  omega
/-- 'append(out, s...)' of bytes, out of the call's own; all but its block stays -/
theorem pushs_lawX {ops : Array Oper} {rest : List Oper} {o : Oper} {a : Act} {Q : Exit → Act → World → Prop} (w : World) (hg : o.guard = none) (s x : Operand) (hop : o.op = .call { callee := .builtin .append, args := #[s, x], argTypes := #[22, 22] })
    (B : Nat) (hB : B ≤ w.heap.size) (v vy : Value) (xs ys : List Int) (hs : a.eval s = v) (hx : a.eval x = vy) (hown : Own B w v xs) (hy : Byt w vy ys) (hn : xs.length ≤ 1099511627776) (hm : ys.length ≤ 1099511627776) (hp : 0 < ys.length)
    (hK : ∀ v' w', Own B w' v' (xs ++ ys) → Below B w w' → w.grownBy w' v.ownBlock → wpList Tryz.prog ops Q rest (a.put o.dst v') w') :
    wpList Tryz.prog ops Q (o :: rest) a w := by
  obtain ⟨i0, hi, hz0, hz1, hz2⟩ := info_parts info_u8
  obtain ⟨ao, cap, rfl, h1, h2, h3, h4, h5⟩ := hy
  obtain ⟨b, off, rfl, hc⟩ := h5 hp
  refine wpList_append_own _ hg s x 22 hop B 5 i0 (.int .u8 0) 1 1 Tryz.underlying22 hi hz0 hz1 hz2 rfl (by decide) v xs.length _ hs hown ⟨b, off, none⟩ ys.length cap (ys.map (Value.int .u8)) hx (by simp) ?_ ?_ (by simp only [maxLen]; omega) (by omega) hB fun v' w' h1 h2 _ => ?_
  · intro j u hj
    have hjl : j < ys.length := by have := (List.getElem?_eq_some_iff.1 hj).1; simpa using this
    rw [Addr.add_mid, hc j hjl, ← hj]
    simp [gb, List.getD, hjl]
  · intro u hu
    simp only [List.mem_map] at hu
    obtain ⟨y, _, rfl⟩ := hu
    rfl
  · refine hK v' w' ?_ ?_ h2
    · show w'.ownsRow B 5 1 v' (xs ++ ys).length ((xs ++ ys).map (Value.int .u8))
      simpa using h1
    · exact (Below.refl B w).grown h2 hB fun k hk => (World.ownsRow.lt hown k hk).1

set_option maxHeartbeats 2000000 in
theorem xnew_any (vd vt : Value) (dk tk : List Int) (w : World) (hd : Byt w vd dk) (ht : Byt w vt tk) (hl : dk.length = 32) (hm : tk.length = 32) :
    Calls Tryz.prog 17 #[vd, vt] w fun e w' => ∃ c, e = .returned (.tuple #[.pointer (some ⟨c, 0, none⟩), .int .i64 0]) ∧ Cip w' c dk tk ∧ w.heap.size ≤ c ∧ Below w.heap.size w w' := by
  have S1 : Hid (Calls Tryz.prog 32 #[vd] w fun e w' => ∃ kb, e = .returned (.tuple #[.pointer (some ⟨kb, 0, none⟩), .int .i64 0]) ∧ KeyA w' kb dk ∧ w.heap.size ≤ kb ∧ Below w.heap.size w w') := new_any vd dk w hd hl
  have S2 : Hid (∀ w0, Byt w0 vt tk → Calls Tryz.prog 32 #[vt] w0 fun e w' => ∃ kb, e = .returned (.tuple #[.pointer (some ⟨kb, 0, none⟩), .int .i64 0]) ∧ KeyA w' kb tk ∧ w0.heap.size ≤ kb ∧ Below w0.heap.size w0 w') := fun w0 h => new_any vt tk w0 h hm
  have HT : Hid (Byt w vt tk) := ht
  clear hd ht hl hm
  go_enter Tryz.func17, Tryz.ntmps17
  go_wp2_with (first
    | (have q1 := lk1; go_at_call 32; refine (S2.out _ (HT.out.below B1)).mono ?_; rintro e w2 ⟨kt, rfl, k2, L2, B2⟩; have K2 : Hid (KeyA w2 kt tk) := k2; have KD : Hid (KeyA w2 kd dk) := K1.out.below B2 lk1; clear k2)
    | (go_at_call 32; refine (S1.out).mono ?_; rintro e w1 ⟨kd, rfl, k1, L1, B1⟩; have K1 : Hid (KeyA w1 kd dk) := k1; have lk1 : kd < w1.heap.size := k1.lt; clear k1))
  have BB : Below w.heap.size w w2 := B1.trans (B2.mono B1.size)
  go_ret2
  exact ⟨_, rfl, Cip.new KD.out K2.out, BB.size, BB.alloc BB.size _⟩

set_option maxHeartbeats 2000000 in
theorem xnew_no (vd vt : Value) (dk tk : List Int) (w : World) (hd : Byt w vd dk) (ht : Byt w vt tk) (hn : ¬ (dk.length = 32 ∧ tk.length = 32)) :
    Calls Tryz.prog 17 #[vd, vt] w fun e w' => e = .returned (.tuple #[.pointer none, .int .i64 2]) ∧ Below w.heap.size w w' := by
  by_cases hl : dk.length = 32
  · have hm : ¬ tk.length = 32 := fun h => hn ⟨hl, h⟩
    have S1 : Hid (Calls Tryz.prog 32 #[vd] w fun e w' => ∃ kb, e = .returned (.tuple #[.pointer (some ⟨kb, 0, none⟩), .int .i64 0]) ∧ KeyA w' kb dk ∧ w.heap.size ≤ kb ∧ Below w.heap.size w w') := new_any vd dk w hd hl
    have S2 : Hid (∀ w0, Byt w0 vt tk → Calls Tryz.prog 32 #[vt] w0 fun e w' => e = .returned (.tuple #[.pointer none, .int .i64 2]) ∧ w' = w0) := fun w0 h => new_no vt tk w0 h hm
    have HT : Hid (Byt w vt tk) := ht
    clear hd ht hl hm hn
    go_enter Tryz.func17, Tryz.ntmps17
    go_wp2_with (first
      | (have q1 := lk1; go_at_call 32; refine (S2.out _ (HT.out.below B1)).mono ?_; rintro e wx ⟨rfl, hw⟩; obtain rfl := hw.symm)
      | (go_at_call 32; refine (S1.out).mono ?_; rintro e w1 ⟨kd, rfl, k1, L1, B1⟩; have lk1 : kd < w1.heap.size := k1.lt; clear k1))
    go_ret2
    exact ⟨rfl, B1⟩
  · have S1 : Hid (Calls Tryz.prog 32 #[vd] w fun e w' => e = .returned (.tuple #[.pointer none, .int .i64 2]) ∧ w' = w) := new_no vd dk w hd hl
    clear hd ht hl hn
    go_enter Tryz.func17, Tryz.ntmps17
    go_wp2_with (go_at_call 32; refine (S1.out).mono ?_; rintro e wx ⟨rfl, hw⟩; obtain rfl := hw.symm)
    go_ret2
    exact ⟨rfl, Below.refl _ _⟩

set_option maxHeartbeats 1000000 in
theorem sector_any (w : World) (v : Value) (xs : List Int) (h : Byt w v xs) (b : Bool) (hb : b = decide (16 ≤ xs.length ∧ xs.length ≤ 4096 ∧ xs.length % 16 = 0)) :
    Calls Tryz.prog 60 #[v] w fun e w' => e = .returned (.bool b) ∧ w' = w := by
  obtain ⟨ao, cap, rfl, h1, h2, -, -, -⟩ := h
  obtain ⟨n, hn⟩ : ∃ n, n = xs.length := ⟨_, rfl⟩
  rw [← hn] at hb h1 ⊢
  clear hn
  have HB : Hid (b = decide (16 ≤ n ∧ n ≤ 4096 ∧ n % 16 = 0)) := hb
  clear hb
  obtain ⟨m, hm⟩ : ∃ m, m = n % 16 := ⟨_, rfl⟩
  have HM : Hid (m = n % 16) := hm
  have d1 : (n : Int).tmod 16 = (m : Int) := by rw [Int.tmod_eq_emod_of_nonneg (by omega)]; omega
  have d2 : IntKind.i64.wrap (m : Int) = m := by rw [IntKind.wrap_i64]; omega
  clear hm
  by_cases a1 : 16 ≤ n
  · have l1 : (16 : Int) ≤ (n : Int) := by omega
    by_cases a2 : n ≤ 4096
    · have l2 : (n : Int) ≤ 4096 := by omega
      by_cases a3 : m = 0
      · subst a3
        go_enter Tryz.func60, Tryz.ntmps60
        go_wp2
        go_ret
        exact ⟨ret_bool (by rw [HB.out, ← HM.out]; simp; omega), rfl⟩
      · have l3 : ¬ ((m : Int) = 0) := by omega
        go_enter Tryz.func60, Tryz.ntmps60
        go_wp2
        go_ret
        have e0 : ((m : Int) == 0) = false := by simpa using a3
        exact ⟨ret_bool (by rw [HB.out, ← HM.out, e0]; simp [a3]), rfl⟩
    · have l2 : ¬ (n : Int) ≤ 4096 := by omega
      go_enter Tryz.func60, Tryz.ntmps60
      go_wp2
      go_ret
      exact ⟨ret_bool (by rw [HB.out]; simp; omega), rfl⟩
  · have l1 : ¬ (16 : Int) ≤ (n : Int) := by omega
    go_enter Tryz.func60, Tryz.ntmps60
    go_wp2
    go_ret
    exact ⟨ret_bool (by rw [HB.out]; simp; omega), rfl⟩
end Go.Proofs.YtbkaecjkgjkheaaGreatDoor.xt

/- What xts' underMask answers. No claim of its own. -/
namespace Go.Proofs.YtbkaecjkgjkheaaGreatDoor.xt
open Go.RowKit
set_option maxRecDepth 20000

set_option maxHeartbeats 2000000 in
theorem under_enc (kd : Nat) (bv mv : Value) (dk b m : List Int) (w : World) (hk : KeyA w kd dk) (hdl : dk.length = 32) (hda : AllB dk) (hb : Byt w bv b) (hbl : b.length = 16) (hm : Byt w mv m) (hml : m.length = 16) :
    Calls Tryz.prog 62 #[bv, mv, .func (.func 36) #[.pointer (some ⟨kd, 0, none⟩)] #[]] w fun e w' => ∃ v', e = .returned (.tuple #[v', .int .i64 0]) ∧ Byt w' v' (xe dk m b) ∧ Below w.heap.size w w' := by
  have xb := xorl_blk b m ⟨hbl, hb.all⟩ ⟨hml, hm.all⟩
  have zb := encr_blk dk hdl hda (xorl b m) xb
  have S1 : Hid (Calls Tryz.prog 97 #[bv, mv] w fun e w' => ∃ v, e = .returned (.tuple #[v, .int .i64 0]) ∧ Byt w' v (xorl b m) ∧ Below w.heap.size w w') := xor_any bv mv b m w hb hm (by omega) (by omega)
  have S2 : Hid (∀ u w0, KeyA w0 kd dk → Byt w0 u (xorl b m) → Calls Tryz.prog 36 #[.pointer (some ⟨kd, 0, none⟩), u] w0 fun e w' => ∃ g, e = .returned (.tuple #[.slice (some ⟨g, 0, none⟩) 16 16, .int .i64 0]) ∧ Ar w' g 0 .u8 (encr dk (xorl b m)) ∧ w0.heap.size ≤ g ∧ Below w0.heap.size w0 w') := fun u w0 h1 h2 => encrypt_any u (xorl b m) dk kd w0 h1 hdl hda h2 xb.1
  have S3 : Hid (∀ u w0, Byt w0 u (encr dk (xorl b m)) → Byt w0 mv m → Calls Tryz.prog 97 #[u, mv] w0 fun e w' => ∃ v, e = .returned (.tuple #[v, .int .i64 0]) ∧ Byt w' v (xe dk m b) ∧ Below w0.heap.size w0 w') := fun u w0 h1 h2 => xor_any u mv (encr dk (xorl b m)) m w0 h1 h2 (by rw [zb.1, hml]) (by rw [zb.1]; omega)
  have ZB : Hid ((encr dk (xorl b m)).length = 16 ∧ AllB (encr dk (xorl b m))) := ⟨zb.1, zb.2⟩
  have HK : Hid (KeyA w kd dk) := hk
  have HM : Hid (Byt w mv m) := hm
  have lk : kd < w.heap.size := hk.lt
  generalize xe dk m b = rs at *
  generalize encr dk (xorl b m) = zs at *
  generalize xorl b m = xs at *
  clear hk hdl hda hb hbl hm hml xb zb
  go_enter Tryz.func62, Tryz.ntmps62
  go_wp2_with (first
    | (have q2 := L2; go_at_call 97; refine (S3.out _ _ Y2.out ((HM.out.below B1).below B2)).mono ?_; rintro e w3 ⟨v3, rfl, y3, B3⟩; have Y3 : Hid (Byt w3 v3 rs) := y3; clear y3)
    | (have q1 := lk1; go_at_call 36; refine (S2.out _ _ K1.out Y1.out).mono ?_; rintro e w2 ⟨g2, rfl, a2, L2, B2⟩; have Y2 : Hid (Byt w2 (.slice (some ⟨g2, 0, none⟩) 16 16) zs) := a2.bytG ZB.out.2 16 16 ZB.out.1 (by omega) (by omega); clear a2)
    | (go_at_call 97; refine (S1.out).mono ?_; rintro e w1 ⟨v1, rfl, y1, B1⟩; have Y1 : Hid (Byt w1 v1 xs) := y1; have K1 : Hid (KeyA w1 kd dk) := HK.out.below B1 lk; have lk1 : kd < w1.heap.size := K1.out.lt; clear y1))
  have z1 := B1.size
  have z2 := B2.size
  go_ret2
  exact ⟨_, rfl, Y3.out, (B1.trans (B2.mono z1)).trans (B3.mono (by omega))⟩

set_option maxHeartbeats 2000000 in
theorem under_dec (kd : Nat) (bv mv : Value) (dk b m : List Int) (w : World) (hk : KeyA w kd dk) (hdl : dk.length = 32) (hda : AllB dk) (hb : Byt w bv b) (hbl : b.length = 16) (hm : Byt w mv m) (hml : m.length = 16) :
    Calls Tryz.prog 62 #[bv, mv, .func (.func 50) #[.pointer (some ⟨kd, 0, none⟩)] #[]] w fun e w' => ∃ v', e = .returned (.tuple #[v', .int .i64 0]) ∧ Byt w' v' (xd dk m b) ∧ Below w.heap.size w w' := by
  have xb := xorl_blk b m ⟨hbl, hb.all⟩ ⟨hml, hm.all⟩
  have zb := decr_blk dk hdl hda (xorl b m) xb
  have S1 : Hid (Calls Tryz.prog 97 #[bv, mv] w fun e w' => ∃ v, e = .returned (.tuple #[v, .int .i64 0]) ∧ Byt w' v (xorl b m) ∧ Below w.heap.size w w') := xor_any bv mv b m w hb hm (by omega) (by omega)
  have S2 : Hid (∀ u w0, KeyA w0 kd dk → Byt w0 u (xorl b m) → Calls Tryz.prog 50 #[.pointer (some ⟨kd, 0, none⟩), u] w0 fun e w' => ∃ g, e = .returned (.tuple #[.slice (some ⟨g, 0, none⟩) 16 16, .int .i64 0]) ∧ Ar w' g 0 .u8 (decr dk (xorl b m)) ∧ w0.heap.size ≤ g ∧ Below w0.heap.size w0 w') := fun u w0 h1 h2 => decrypt_any u (xorl b m) dk kd w0 h1 hdl hda h2 xb.1
  have S3 : Hid (∀ u w0, Byt w0 u (decr dk (xorl b m)) → Byt w0 mv m → Calls Tryz.prog 97 #[u, mv] w0 fun e w' => ∃ v, e = .returned (.tuple #[v, .int .i64 0]) ∧ Byt w' v (xd dk m b) ∧ Below w0.heap.size w0 w') := fun u w0 h1 h2 => xor_any u mv (decr dk (xorl b m)) m w0 h1 h2 (by rw [zb.1, hml]) (by rw [zb.1]; omega)
  have ZB : Hid ((decr dk (xorl b m)).length = 16 ∧ AllB (decr dk (xorl b m))) := ⟨zb.1, zb.2⟩
  have HK : Hid (KeyA w kd dk) := hk
  have HM : Hid (Byt w mv m) := hm
  have lk : kd < w.heap.size := hk.lt
  generalize xd dk m b = rs at *
  generalize decr dk (xorl b m) = zs at *
  generalize xorl b m = xs at *
  clear hk hdl hda hb hbl hm hml xb zb
  go_enter Tryz.func62, Tryz.ntmps62
  go_wp2_with (first
    | (have q2 := L2; go_at_call 97; refine (S3.out _ _ Y2.out ((HM.out.below B1).below B2)).mono ?_; rintro e w3 ⟨v3, rfl, y3, B3⟩; have Y3 : Hid (Byt w3 v3 rs) := y3; clear y3)
    | (have q1 := lk1; go_at_call 50; refine (S2.out _ _ K1.out Y1.out).mono ?_; rintro e w2 ⟨g2, rfl, a2, L2, B2⟩; have Y2 : Hid (Byt w2 (.slice (some ⟨g2, 0, none⟩) 16 16) zs) := a2.bytG ZB.out.2 16 16 ZB.out.1 (by omega) (by omega); clear a2)
    | (go_at_call 97; refine (S1.out).mono ?_; rintro e w1 ⟨v1, rfl, y1, B1⟩; have Y1 : Hid (Byt w1 v1 xs) := y1; have K1 : Hid (KeyA w1 kd dk) := HK.out.below B1 lk; have lk1 : kd < w1.heap.size := K1.out.lt; clear y1))
  have z1 := B1.size
  have z2 := B2.size
  go_ret2
  exact ⟨_, rfl, Y3.out, (B1.trans (B2.mono z1)).trans (B3.mono (by omega))⟩
end Go.Proofs.YtbkaecjkgjkheaaGreatDoor.xt

/- What twice's polynomials answer: of a list, as a list, doubled, added. No claim of its own. -/
namespace Go.Proofs.YtbkaecjkgjkheaaGreatDoor.tw
open Go.RowKit
set_option maxRecDepth 20000

def z16 : List Int := List.replicate 16 0
theorem z16_len : z16.length = 16 := List.length_replicate
theorem z_poly : (Tryz.prog.info? 136).map (fun i => (i.zero, i.size)) = some (some (.agg (ints .u8 z16)), z16.length) := by kernel_rfl
theorem i_poly : (Tryz.prog.info? 136).map (·.size) = some 16 := by kernel_rfl
theorem laid_all (xs ys : List Int) (h : xs.length = ys.length) : laid xs 0 ys = ys := by
  unfold laid
  rw [List.take_zero, List.nil_append, List.drop_eq_nil_of_le (by omega), List.append_nil]
theorem gb_setT (xs : List Int) (i t : Nat) (x : Int) (h : t < xs.length) : gb (xs.set i x) t = if i = t then x else gb xs t := set_gb xs i t x h
theorem range_gbT (n : Nat) (f : Nat → Int) (t : Nat) (h : t < n) : gb ((List.range n).map f) t = f t := by simp [gb, List.getD, h]

section
variable {ops : Array Oper} {rest : List Oper} {o : Oper} {a : Act} {Q : Exit → Act → World → Prop}
/-- 'copy(d, s)' of as many bytes as d has room for -/
theorem copy_lawG (w : World) (hg : o.guard = none) (x y : Operand) (hop : o.op = .call { callee := .builtin .copy, args := #[x, y], argTypes := #[22, 22] })
    (b p n dc : Nat) (v : Value) (xs ys : List Int) (hx : a.eval x = .slice (some ⟨b, p, none⟩) n dc) (hy : a.eval y = v) (hb : Byt w v ys) (hA : Ar w b 0 .u8 xs) (hn : ys.length = n) (hl : p + n ≤ xs.length)
    (hK : ∀ w', Ar w' b 0 .u8 (laid xs p ys) → Below b w w' → wpList Tryz.prog ops Q rest (a.put o.dst (.int .i64 (n : Int))) w') :
    wpList Tryz.prog ops Q (o :: rest) a w := by
  refine wpList_plain hg fun K hK' => ?_
  obtain ⟨ao, cap, rfl, h1, h2, h3, h4, h5⟩ := hb
  have e : min ys.length n = n := by omega
  have hrun := run_copyG w b p n dc ao ys cap o.type h5 (by rw [e]; exact thereG hA p n hl)
  rw [e, List.take_of_length_le (by omega)] at hrun
  unfold Oper.wp execOp
  simp only [hop, resolve, invoke, builtin, Sem.run_bind, Sem.run_pure, Result.andThen_ok, List.map_toArray, List.map_cons, List.map_nil, hx, hy, hrun]
  exact hK' _ _ (hK _ (hA.layG p ys (by omega)) (below_cells _ (Nat.le_refl _) _ _ (Below.refl _ _)))
/-- an element of a polynomial -/
theorem idx16 (w : World) (hg : o.guard = none) (x y : Operand) (hop : o.op = Op.index 136 x y) (xs : List Int) (I : Int) (i : Nat) (hx : a.eval x = .agg (ints .u8 xs)) (hy : a.eval y = .int .i64 I) (hI : I = (i : Int)) (hl : xs.length = 16) (hi : i < 16)
    (q : Int) (hq : q = gb xs i) (hK : wpList Tryz.prog ops Q rest (a.put o.dst (.int .u8 q)) w) : wpList Tryz.prog ops Q (o :: rest) a w := by
  subst hq
  subst hI
  refine wpList_plain hg fun K hK' => ?_
  have e : (ints .u8 xs)[i]? = some (.int .u8 (gb xs i)) := by simp [ints, gb, List.getD, show i < xs.length by omega]
  have hu := Tryz.underlying136
  have hu2 := Tryz.underlying5
  have hsz : (ints .u8 xs).size = 16 := by simp [ints, hl]
  have hr : (Instr.index 136 (.agg (ints .u8 xs)) (.int .i64 i)).run Tryz.prog w = .ok (.int .u8 (gb xs i)) w := by
    simp [Instr.index, asIntOf, run_underlying hu, run_underlying hu2, Go.part, isAgg, e]
    intro h; omega
  unfold Oper.wp execOp
  simp only [hop, hx, hy, Sem.run_bind, Sem.run_pure, Result.andThen_ok, hr]
  exact hK' _ _ hK
end

set_option linter.unusedSimpArgs false in
set_option maxRecDepth 20000 in
set_option maxHeartbeats 2000000 in
theorem tof_any (v : Value) (xs : List Int) (w : World) (hv : Byt w v xs) (hl : xs.length = 16) :
    Calls Tryz.prog 119 #[v] w fun e w' => e = .returned (.agg (ints .u8 xs)) ∧ Below w.heap.size w w' := by
  have HV : Hid (Byt w v xs) := hv
  have HL : Hid (xs.length = 16) := hl
  have HZ : Hid (laid z16 0 xs = xs) := laid_all z16 xs (by rw [z16_len, hl])
  clear hv hl
  go_enter Tryz.func119, Tryz.ntmps119
  go_wp2_with (first
    | (have q2 := s2; refine copy_lawG _ rfl (.tmp 4) (.tmp 5) rfl w1.heap.size 0 16 16 v z16 xs rfl rfl (HV.out.below (B1.trans (B2.mono (by omega)))) HA2.out HL.out (by rw [z16_len]; omega) ?_; intro w3 A3 B3; rw [HZ.out] at A3; have HA3 : Hid (Ar w3 w1.heap.size 0 .u8 xs) := A3; clear A3)
    | (have q1 := s1; refine new_lawF _ rfl 136 rfl .u8 z16 z_poly ?_; intro w2 A2 B2 s2; have HA2 : Hid (Ar w2 w1.heap.size 0 .u8 z16) := A2; clear A2)
    | (refine new_lawF _ rfl 136 rfl .u8 z16 z_poly ?_; intro w1 A1 B1 s1; have HA1 : Hid (Ar w1 w.heap.size 0 .u8 z16) := A1; clear A1)
    | (refine load_law _ rfl (.tmp 3) 136 rfl .u8 xs w1.heap.size 0 rfl HA3.out 16 5 Tryz.underlying136 i_poly HL.out ?_)
    | (refine store_lawF _ rfl (.tmp 2) (.tmp 7) 136 rfl .u8 z16 xs w.heap.size rfl rfl (((HA1.out.below B2 s1)).below B3 s1) 16 i_poly z16_len HL.out ?_; intro w7 A7 B7))
  refine bodyPost_ret (v := .agg (ints .u8 xs)) (results_ar rfl _ _ w.heap.size 0 .u8 xs rfl A7 16 5 Tryz.underlying136 i_poly HL.out) rfl ⟨rfl, ?_⟩
  exact ((B1.trans (B2.mono (by omega))).trans (B3.mono (by omega))).trans B7

set_option linter.unusedSimpArgs false in
set_option maxRecDepth 20000 in
set_option maxHeartbeats 2000000 in
theorem tlst_any (xs : List Int) (w : World) (hl : xs.length = 16) (hx : AllB xs) :
    Calls Tryz.prog 120 #[.agg (ints .u8 xs)] w fun e w' => ∃ g, e = .returned (.slice (some ⟨g, 0, none⟩) 16 16) ∧ Ar w' g 0 .u8 xs ∧ w.heap.size ≤ g ∧ Below w.heap.size w w' := by
  have HX : Hid (AllB xs) := hx
  have HL : Hid (xs.length = 16) := hl
  have HZ : Hid (laid z16 0 xs = xs) := laid_all z16 xs (by rw [z16_len, hl])
  clear hl hx
  go_enter Tryz.func120, Tryz.ntmps120
  go_wp2_with (first
    | (have q2 := s2; refine copy_lawG _ rfl (.tmp 5) (.tmp 6) rfl w1.heap.size 0 16 16 _ z16 xs rfl rfl ((HA1.out.below B2 s1).bytG HX.out 16 16 HL.out (by omega) (by omega)) HO2.out HL.out (by rw [z16_len]; omega) ?_; intro w3 A3 B3; rw [HZ.out] at A3; have HA3 : Hid (Ar w3 w1.heap.size 0 .u8 xs) := A3; clear A3)
    | (refine box_lawF _ rfl (.tmp 0) 136 rfl .u8 xs rfl ?_; intro w1 A1 B1 s1; have HA1 : Hid (Ar w1 w.heap.size 0 .u8 xs) := A1; clear A1)
    | (at_make; refine make_law _ rfl _ _ rfl w1.heap.size (Nat.le_refl _) 16 16 rfl rfl rfl (by omega) ?_; intro w2 hown B2 s2; have HO2 : Hid (Ar w2 w1.heap.size 0 .u8 z16) := hown.arG; clear hown))
  go_ret
  exact ⟨w1.heap.size, rfl, HA3.out, by omega, B1.trans ((B2.trans B3).mono (by omega))⟩
end Go.Proofs.YtbkaecjkgjkheaaGreatDoor.tw

/- What twice's doubled and plus answer. No claim of its own. -/
namespace Go.Proofs.YtbkaecjkgjkheaaGreatDoor.tw
open Go.RowKit
set_option maxRecDepth 20000

/-! ### a byte, doubled, with the top bit of the one ahead -/
def dN (b c : Nat) : Nat := (b * 2 % 256) ||| (c / 128)
theorem dN_bit0 (b c : Nat) : (dN b c).testBit 0 = c.testBit 7 := by
  unfold dN
  rw [Nat.testBit_or, show c / 128 = c / 2 ^ 7 from rfl, Nat.testBit_div_two_pow, show b * 2 % 256 = b * 2 % 2 ^ 8 from rfl, Nat.testBit_mod_two_pow, Nat.mul_comm, Nat.testBit_zero]
  simp
theorem dN_bit (b c j : Nat) (hc : c < 256) (hj : j < 7) : (dN b c).testBit (j + 1) = b.testBit j := by
  unfold dN
  have : c / 128 < 2 ^ (j + 1) := Nat.lt_of_lt_of_le (show c / 128 < 2 ^ 1 by omega) (Nat.pow_le_pow_right (by omega) (by omega))
  rw [Nat.testBit_or, Nat.testBit_lt_two_pow this, show b * 2 % 256 = b * 2 % 2 ^ 8 from rfl, Nat.testBit_mod_two_pow, Nat.mul_comm, two_bit]
  simp [show j + 1 < 8 by omega]
theorem dN_lt (b c : Nat) (hc : c < 256) : dN b c < 256 := Nat.or_lt_two_pow (n := 8) (by omega) (by omega)
/-- the byte ahead of place i -/
def ah (xs : List Int) (i : Nat) : Int := if i = 0 then 0 else gb xs (i - 1)
theorem ah_bd (xs : List Int) (h : AllB xs) (i : Nat) : 0 ≤ ah xs i ∧ ah xs i ≤ 255 := by
  unfold ah
  split
  · omega
  · exact h _
def dv (xs : List Int) (i : Nat) : Int := ((dN (gb xs i).toNat (ah xs i).toNat : Nat) : Int)
theorem or_dv (xs : List Int) (h : AllB xs) (i : Nat) : bits .or .u8 (gb xs i * 2 % 256) (ah xs i / 128) = dv xs i := by
  have h1 := h i
  have h2 := ah_bd xs h i
  rw [u8_or _ _ (by omega) (by omega) (by omega) (by omega)]
  unfold dv dN
  rw [show (gb xs i * 2 % 256).toNat = (gb xs i).toNat * 2 % 256 by omega, show (ah xs i / 128).toNat = (ah xs i).toNat / 128 by omega]
/-- the bits of a number that is doubled -/
theorem td_bit0 (n : Nat) : (td n).testBit 0 = n.testBit 127 := by
  unfold td
  rw [Nat.testBit_xor, Nat.testBit_mod_two_pow]
  cases n.testBit 127 <;> simp [sel]
theorem td_bit (n t : Nat) (h : t < 127) : (td n).testBit (t + 1) = (n.testBit t ^^ (sel (n.testBit 127) 135).testBit (t + 1)) := by
  unfold td
  rw [Nat.testBit_xor, Nat.testBit_mod_two_pow, two_bit]
  simp [show t + 1 < 128 by omega]
theorem sel_low (c : Bool) (t : Nat) (h : 8 ≤ t) : (sel c 135).testBit t = false :=
  Nat.testBit_lt_two_pow (Nat.lt_of_lt_of_le (sel_lt c 135 256 (by decide)) (Nat.pow_le_pow_right (n := 2) (by omega) (show 8 ≤ t from h)))
theorem byte_eq (n i m : Nat) (hm : m < 256) (h : ∀ j, j < 8 → n.testBit (8 * i + j) = m.testBit j) : n / 2 ^ (8 * i) % 2 ^ 8 = m := by
  apply Nat.eq_of_testBit_eq
  intro j
  by_cases hj : j < 8
  · rw [part_bit n i j hj, h j hj]
  · rw [Nat.testBit_mod_two_pow, Nat.testBit_lt_two_pow (Nat.lt_of_lt_of_le (show m < 2 ^ 8 by omega) (Nat.pow_le_pow_right (by omega) (by omega)))]
    simp [hj]
theorem td_byte (xs : List Int) (hx : B16 xs) (i : Nat) (h1 : 1 ≤ i) (hi : i < 16) : gb (bt16 (td (nm16 xs))) i = dv xs i := by
  rw [bt16_gb _ _ hi]
  unfold dv
  have hc := ah_bd xs hx.2 i
  refine congrArg (fun n : Nat => (n : Int)) (byte_eq _ i _ (dN_lt _ _ (by omega)) fun j hj => ?_)
  obtain ⟨i, rfl⟩ : ∃ k, i = k + 1 := ⟨i - 1, by omega⟩
  have ha : ah xs (i + 1) = gb xs i := by simp [ah]
  cases j with
  | zero =>
    rw [dN_bit0 _ _, show 8 * (i + 1) + 0 = 8 * i + 7 + 1 by omega, td_bit _ _ (by omega), nm_bit xs hx.2 i 7 (by omega) (by omega), sel_low _ _ (by omega), ha, Bool.xor_false]
  | succ j =>
    rw [dN_bit _ _ _ (by omega) (by omega), ← Nat.add_assoc, td_bit _ _ (by omega), nm_bit xs hx.2 (i + 1) j (by omega) (by omega), sel_low _ _ (by omega), Bool.xor_false]
theorem td_byte0 (xs : List Int) (hx : B16 xs) : gb (bt16 (td (nm16 xs))) 0 = xr (dv xs 0) (gb xs 15 / 128 * 135) := by
  rw [bt16_gb _ _ (by omega)]
  unfold xr
  have h15 := hx.2 15
  have h0 := hx.2 0
  have ht : (nm16 xs).testBit 127 = (gb xs 15).toNat.testBit 7 := nm_bit xs hx.2 15 7 (by omega) (by omega)
  have hs : (gb xs 15 / 128 * 135).toNat = sel ((gb xs 15).toNat.testBit 7) 135 := by
    have hb : (gb xs 15).toNat.testBit 7 = decide ((gb xs 15).toNat / 128 % 2 = 1) := by
      rw [Nat.testBit_eq_decide_div_mod_eq]
    rw [hb]
    by_cases c : 128 ≤ (gb xs 15).toNat
    · rw [decide_eq_true (by omega), show gb xs 15 / 128 = 1 by omega]; rfl
    · rw [decide_eq_false (by omega), show gb xs 15 / 128 = 0 by omega]; rfl
  rw [hs]
  have e0 : (dv xs 0).toNat = dN (gb xs 0).toNat 0 := by simp [dv, ah]
  rw [e0]
  have hd := dN_lt (gb xs 0).toNat 0 (by omega)
  refine congrArg (fun n : Nat => (n : Int)) (byte_eq _ 0 _ (Nat.xor_lt_two_pow (n := 8) hd (sel_lt _ _ _ (by decide))) fun j hj => ?_)
  rw [Nat.testBit_xor, Nat.mul_zero, Nat.zero_add]
  cases j with
  | zero =>
    rw [dN_bit0 _ _, td_bit0, ht, Nat.zero_testBit, Bool.false_xor]
    cases (gb xs 15).toNat.testBit 7 <;> rfl
  | succ j =>
    have := nm_bit xs hx.2 0 j (by omega) (by omega)
    rw [Nat.mul_zero, Nat.zero_add] at this
    rw [dN_bit _ _ _ (by omega) (by omega), td_bit _ _ (by omega), this, ht]
/-- the first k bytes, doubled -/
def prd (xs : List Int) (k : Nat) : List Int := (List.range 16).map fun t => if t < k then dv xs t else 0
theorem prd_len (xs : List Int) (k : Nat) : (prd xs k).length = 16 := by simp [prd]
theorem gb_prd (xs : List Int) (k t : Nat) (h : t < 16) : gb (prd xs k) t = if t < k then dv xs t else 0 := range_gbT _ _ _ h
theorem prd_zero (xs : List Int) : prd xs 0 = z16 := rfl
theorem prd_set (xs : List Int) (k : Nat) : (prd xs k).set k (dv xs k) = prd xs (k + 1) := ext_gb (by simp [prd]) fun t ht => by
  rw [List.length_set, prd_len] at ht
  rw [gb_setT _ _ _ _ (by rw [prd_len]; exact ht), gb_prd _ _ _ ht, gb_prd _ _ _ ht]
  by_cases e : k = t
  · subst e; simp
  · rw [if_neg e]
    by_cases h : t < k
    · rw [if_pos h, if_pos (by omega)]
    · rw [if_neg h, if_neg (by omega)]
theorem prd_end (xs : List Int) (hx : B16 xs) : (prd xs 16).set 0 (xr (dv xs 0) (gb xs 15 / 128 * 135)) = bt16 (td (nm16 xs)) := ext_gb (by rw [List.length_set, prd_len, bt16_len]) fun t ht => by
  rw [List.length_set, prd_len] at ht
  rw [gb_setT _ _ _ _ (by rw [prd_len]; exact ht), gb_prd _ _ _ ht]
  by_cases e : 0 = t
  · subst e; rw [if_pos rfl, td_byte0 xs hx]
  · rw [if_neg e, if_pos ht, td_byte xs hx t (by omega) ht]

set_option linter.unusedSimpArgs false in
set_option maxRecDepth 20000 in
set_option maxHeartbeats 4000000 in
theorem tdbl_any (xs : List Int) (w : World) (hx : B16 xs) :
    Calls Tryz.prog 121 #[.agg (ints .u8 xs)] w fun e w' => e = .returned (.agg (ints .u8 (bt16 (td (nm16 xs))))) ∧ Below w.heap.size w w' := by
  have HX : Hid (B16 xs) := hx
  have HE : Hid ((prd xs 16).set 0 (xr (dv xs 0) (gb xs 15 / 128 * 135)) = bt16 (td (nm16 xs)) ∧ (bt16 (td (nm16 xs))).length = 16) := ⟨prd_end xs hx, bt16_len _⟩
  generalize bt16 (td (nm16 xs)) = zs at *
  clear hx
  go_enter Tryz.func121, Tryz.ntmps121
  go_wp2_with (first
    | (have q2 := s2; refine new_lawF _ rfl 136 rfl .u8 z16 z_poly ?_; intro w3 A3 B3 s3; have HA3 : Hid (Ar w3 w2.heap.size 0 .u8 z16) := A3; clear A3)
    | (have q1 := s1; refine new_lawF _ rfl 136 rfl .u8 z16 z_poly ?_; intro w2 A2 B2 s2; have HA2 : Hid (Ar w2 w1.heap.size 0 .u8 z16) := A2; clear A2)
    | (refine box_lawF _ rfl (.tmp 0) 136 rfl .u8 xs rfl ?_; intro w1 A1 B1 s1; have HA1 : Hid (Ar w1 w.heap.size 0 .u8 xs) := A1; clear A1)
    | (refine load_law _ rfl (.tmp 1) 136 rfl .u8 xs w.heap.size 0 rfl ((HA1.out.below B2 s1).below B3 (by omega)) 16 5 Tryz.underlying136 i_poly HX.out.1 ?_))
  have D1 : Hid (Ar w3 w1.heap.size 0 .u8 z16) := HA2.out.below B3 s2
  have BW : Below w.heap.size w w3 := (B1.trans (B2.mono (by omega))).trans (B3.mono (by omega))
  have o3 : w2.heap.size < w3.heap.size := s3
  have o2 : w1.heap.size < w2.heap.size := s2
  have o1 : w.heap.size < w1.heap.size := s1
  generalize hg0 : w.heap.size = g0 at *
  generalize w2.heap.size = g2 at *
  generalize w1.heap.size = g1 at *
  go_loopw [4, 8] (fun c i wr => ∃ k : Nat, k ≤ 16 ∧ i = .int .i64 k ∧ c = .int .u8 (ah xs k / 128) ∧ Ar wr g2 0 .u8 (prd xs k) ∧ Ar wr g1 0 .u8 z16 ∧ Below g0 w wr) (fun _ i _ => 16 - (intOf i).toNat)
  case atStart => exact ⟨0, Nat.zero_le _, rfl, rfl, by rw [prd_zero]; exact HA3.out, D1.out, BW⟩
  case round =>
    obtain ⟨k, hk, rfl, rfl, hA, hR, hB⟩ := hrel
    obtain ⟨wa, rfl⟩ : ∃ wx, wx = wr := ⟨_, rfl⟩
    have k0 : (0 : Int) ≤ (k : Int) := by omega
    have q1 : IntKind.i64.wrap (k : Int) = k := by rw [IntKind.wrap_i64]; omega
    by_cases hlt : k < 16
    · have k1 : (k : Int) < 16 := by omega
      have c3 := hA.cell0 k (by rw [prd_len]; omega)
      have c4 := hA.free0 k (by rw [prd_len]; omega)
      have hz := or_dv xs HX.out.2 k
      have bx := HX.out.2 k
      have bc := ah_bd xs HX.out.2 k
      have HN : Hid (ah xs (k + 1) = gb xs k) := by show _ = _; simp [ah]
      have hA2 : Hid (Ar (wa.setCell ⟨g2, k, none⟩ (.int .u8 (dv xs k))) g2 0 .u8 (prd xs (k + 1))) := by
        have h := hA.set0 k (by rw [prd_len]; omega) (dv xs k)
        rw [prd_set] at h
        exact h
      have hR2 : Hid (Ar (wa.setCell ⟨g2, k, none⟩ (.int .u8 (dv xs k))) g1 0 .u8 z16) := hR.other (by show g1 ≠ g2; omega) _
      have hB2 : Hid (Below g0 w (wa.setCell ⟨g2, k, none⟩ (.int .u8 (dv xs k)))) := hB.setCell (by show g0 ≤ g2; omega) _
      clear hA hR hB
      have HG : Hid (gb xs k = gb xs k) := rfl
      obtain ⟨x, hx⟩ : ∃ x, x = gb xs k := ⟨_, rfl⟩
      have HGX : Hid (x = gb xs k) := hx
      rw [← hx] at hz bx HN
      clear hx HG
      generalize dv xs k = z at *
      generalize gb (prd xs k) k = y at *
      obtain ⟨c, hc⟩ : ∃ c, c = ah xs k := ⟨_, rfl⟩
      rw [← hc] at hz bc ⊢
      clear hc
      go_wp2_with (refine idx16 _ rfl (.tmp 7) (.tmp 8) rfl xs _ k rfl rfl rfl HX.out.1 hlt x HGX.out ?_)
      go_roundw
      case rel => exact ⟨k + 1, by omega, by go_num, by rw [HN.out], hA2.out, hR2.out, hB2.out⟩
      case measure => simp [intOf]; omega
    · have hk16 : k = 16 := by omega
      subst hk16
      have c3 := hA.cell0 0 (by rw [prd_len]; omega)
      have c4 := hA.free0 0 (by rw [prd_len]; omega)
      rw [gb_prd _ _ _ (by omega), if_pos (by omega)] at c3
      have b15 := HX.out.2 15
      have bd : 0 ≤ dv xs 0 ∧ dv xs 0 ≤ 255 := by
        have := dN_lt (gb xs 0).toNat (ah xs 0).toNat (by have := ah_bd xs HX.out.2 0; omega)
        unfold dv; omega
      have e16 : ah xs 16 = gb xs 15 := by simp [ah]
      rw [e16]
      have hc : gb xs 15 / 128 = 0 ∨ gb xs 15 / 128 = 1 := by omega
      have hxr := xr_of (dv xs 0) (gb xs 15 / 128 * 135) bd (by omega)
      have hA2 : Hid (Ar (wa.setCell ⟨g2, 0, none⟩ (.int .u8 (xr (dv xs 0) (gb xs 15 / 128 * 135)))) g2 0 .u8 zs) := by
        have h := hA.set0 0 (by rw [prd_len]; omega) (xr (dv xs 0) (gb xs 15 / 128 * 135))
        rw [HE.out.1] at h
        exact h
      have hR2 : Hid (Ar (wa.setCell ⟨g2, 0, none⟩ (.int .u8 (xr (dv xs 0) (gb xs 15 / 128 * 135)))) g1 0 .u8 z16) := hR.other (by show g1 ≠ g2; omega) _
      have hB2 : Hid (Below g0 w (wa.setCell ⟨g2, 0, none⟩ (.int .u8 (xr (dv xs 0) (gb xs 15 / 128 * 135))))) := hB.setCell (by show g0 ≤ g2; omega) _
      have HZL : Hid (zs.length = 16) := HE.out.2
      clear hA hR hB HE e16 b15
      generalize xr (dv xs 0) (gb xs 15 / 128 * 135) = z at *
      generalize dv xs 0 = d at *
      generalize gb xs 15 / 128 = c at *
      have hm : c * 135 % 256 = c * 135 := by omega
      go_wp2_with (first
        | (refine load_law _ rfl (.tmp 3) 136 rfl .u8 zs g2 0 rfl hA2.out 16 5 Tryz.underlying136 i_poly HZL.out ?_)
        | (refine store_lawF _ rfl (.tmp 2) (.tmp 27) 136 rfl .u8 z16 zs g1 rfl rfl hR2.out 16 i_poly z16_len HZL.out ?_; intro w7 A7 B7))
      refine bodyPost_ret (v := .agg (ints .u8 zs)) (results_ar rfl _ _ g1 0 .u8 zs rfl A7 16 5 Tryz.underlying136 i_poly HZL.out) rfl ⟨rfl, ?_⟩
      rw [hg0]
      exact hB2.out.trans (B7.mono (by omega))
end Go.Proofs.YtbkaecjkgjkheaaGreatDoor.tw

/- What twice's plus and times (of polynomials) answer. No claim of its own. -/
namespace Go.Proofs.YtbkaecjkgjkheaaGreatDoor.tw
open Go.RowKit
set_option maxRecDepth 20000

/-- the first n bytes are xored -/
def prx (xs ys : List Int) (n : Nat) : List Int := (List.range 16).map fun t => if t < n then xr (gb xs t) (gb ys t) else gb xs t
theorem prx_len (xs ys : List Int) (n : Nat) : (prx xs ys n).length = 16 := by simp [prx]
theorem gb_prx (xs ys : List Int) (n t : Nat) (h : t < 16) : gb (prx xs ys n) t = if t < n then xr (gb xs t) (gb ys t) else gb xs t := range_gbT _ _ _ h
theorem prx_zero (xs ys : List Int) (h : xs.length = 16) : prx xs ys 0 = xs := ext_gb (by rw [prx_len, h]) fun t ht => by
  rw [prx_len] at ht
  rw [gb_prx _ _ _ _ ht, if_neg (by omega)]
theorem prx_end (xs ys : List Int) (h : xs.length = 16) (h' : ys.length = 16) : prx xs ys 16 = xorl xs ys := ext_gb (by rw [prx_len, xorl_len _ _ (by omega), h]) fun t ht => by
  rw [prx_len] at ht
  rw [gb_prx _ _ _ _ ht, if_pos ht, xorl_gb _ _ (by omega) _ (by omega)]
theorem prx_set (xs ys : List Int) (n : Nat) : (prx xs ys n).set n (xr (gb xs n) (gb ys n)) = prx xs ys (n + 1) := ext_gb (by simp [prx]) fun t ht => by
  rw [List.length_set, prx_len] at ht
  rw [gb_setT _ _ _ _ (by rw [prx_len]; exact ht), gb_prx _ _ _ _ ht, gb_prx _ _ _ _ ht]
  by_cases e : n = t
  · subst e; simp
  · rw [if_neg e]
    by_cases h : t < n
    · rw [if_pos h, if_pos (by omega)]
    · rw [if_neg h, if_neg (by omega)]
theorem xor_bt (m n : Nat) (hm : m < 2 ^ 128) (hn : n < 2 ^ 128) : xorl (bt16 m) (bt16 n) = bt16 (m ^^^ n) := by
  have hl : (bt16 m).length = (bt16 n).length := by rw [bt16_len, bt16_len]
  refine nm_only _ _ ⟨by rw [xorl_len _ _ hl, bt16_len], xorl_all _ _ hl (bt16_all m) (bt16_all n)⟩ (bt16_b _) ?_
  rw [nm_xor _ _ (bt16_b m) (bt16_b n), nm_bt m hm, nm_bt n hn, nm_bt _ (xor_lt128 m n hm hn)]

/-! ### by numbers -/
theorem pdbl_any (n : Nat) (w : World) (hn : n < 2 ^ 128) :
    Calls Tryz.prog 121 #[.agg (ints .u8 (bt16 n))] w fun e w' => e = .returned (.agg (ints .u8 (bt16 (td n)))) ∧ Below w.heap.size w w' := by
  have := tdbl_any (bt16 n) w (bt16_b n)
  rwa [nm_bt n hn] at this

theorem bt16_zero : bt16 0 = z16 := by decide

/-- a byte's bit, as the program asks for it -/
theorem ask_bit : ∀ b : Nat, b < 256 → ∀ j : Nat, j < 8 → bits .and .u8 ((b : Int) / 2 ^ j) 1 = if b.testBit j then 1 else 0 := by decide +kernel
end Go.Proofs.YtbkaecjkgjkheaaGreatDoor.tw

/- What twice's times of polynomials answers. No claim of its own. -/
namespace Go.Proofs.YtbkaecjkgjkheaaGreatDoor.tw
open Go.RowKit
set_option maxRecDepth 20000

section
variable {ops : Array Oper} {rest : List Oper} {o : Oper} {a : Act} {Q : Exit → Act → World → Prop}
/-- a whole array is written; what lies in other blocks stays -/
theorem store_lawK (w : World) (hg : o.guard = none) (x y : Operand) (t : TypeId) (hop : o.op = Op.store t x y) (k : IntKind) (xs ys : List Int) (b : Nat) (hx : a.eval x = .pointer (some ⟨b, 0, none⟩)) (hy : a.eval y = .agg (ints k ys))
    (hA : Ar w b 0 k xs) (n : Nat) (hi : (Tryz.prog.info? t).map (·.size) = some n) (hl : xs.length = n) (hn : ys.length = n)
    (hK : ∀ w', Ar w' b 0 k ys → Below b w w' → (∀ b' o' k' zs, b' ≠ b → Ar w b' o' k' zs → Ar w' b' o' k' zs) → wpList Tryz.prog ops Q rest (a.put o.dst undef) w') :
    wpList Tryz.prog ops Q (o :: rest) a w := by
  have ht : w.there b 0 ys.length := by rw [hn, ← hl]; exact hA.2
  exact store_law w hg x y t hop k ys b 0 hx hy ht n hi hn (hK _ (Ar.whole ht) (below_cells _ (Nat.le_refl _) _ _ (Below.refl _ _)) fun b' o' k' zs hb h => h.apart b 0 _ (Or.inl hb))
end
end Go.Proofs.YtbkaecjkgjkheaaGreatDoor.tw

/- What twice's Times, Double and Mul answer. No claim of its own. -/
namespace Go.Proofs.YtbkaecjkgjkheaaGreatDoor.tw
open Go.RowKit
set_option maxRecDepth 20000
end Go.Proofs.YtbkaecjkgjkheaaGreatDoor.tw

/- What twice's List answers. No claim of its own. -/
namespace Go.Proofs.YtbkaecjkgjkheaaGreatDoor.tw
open Go.RowKit
set_option maxRecDepth 20000

theorem info_bytesT : (Tryz.prog.info? 22).map (fun i => (i.zero, i.size, i.bytes)) = some (some (.slice none 0 0), 1, 24) := by kernel_rfl

theorem heap_setCells (b b' : Nat) (hb : b' ≠ b) : ∀ (vs : List Value) (o : Nat) (w : World), (w.setCells b o vs).heap[b']? = w.heap[b']?
  | [], _, _ => rfl
  | v :: r, o, w => (heap_setCells b b' hb r (o + 1) (w.setCell ⟨b, o, none⟩ v)).trans (Below.heap_setCell w ⟨b, o, none⟩ v b' hb)
/-- a whole array is written; other blocks stay -/
theorem store_lawH {ops : Array Oper} {rest : List Oper} {o : Oper} {a : Act} {Q : Exit → Act → World → Prop} (w : World) (hg : o.guard = none) (x y : Operand) (t : TypeId) (hop : o.op = Op.store t x y) (k : IntKind) (xs ys : List Int) (b : Nat) (hx : a.eval x = .pointer (some ⟨b, 0, none⟩)) (hy : a.eval y = .agg (ints k ys))
    (hA : Ar w b 0 k xs) (n : Nat) (hi : (Tryz.prog.info? t).map (·.size) = some n) (hl : xs.length = n) (hn : ys.length = n)
    (hK : ∀ w', Ar w' b 0 k ys → Below b w w' → (∀ b', b' ≠ b → w'.heap[b']? = w.heap[b']?) → wpList Tryz.prog ops Q rest (a.put o.dst undef) w') :
    wpList Tryz.prog ops Q (o :: rest) a w := by
  have ht : w.there b 0 ys.length := by rw [hn, ← hl]; exact hA.2
  exact store_law w hg x y t hop k ys b 0 hx hy ht n hi hn (hK _ (Ar.whole ht) (below_cells _ (Nat.le_refl _) _ _ (Below.refl _ _)) fun b' hb => heap_setCells b b' hb _ _ _)

/-- a row of n slices in block g; the first k of them hold the sixteen bytes that f tells, in later blocks other than p -/
def Rw (w : World) (g p n k : Nat) (f : Nat → List Int) : Prop :=
  (∀ i, i < n → (w.cell? ⟨g, i, none⟩).isSome = true ∧ w.frozen? ⟨g, i, none⟩ = false) ∧ ∀ i, i < k → ∃ gi, (g < gi ∧ gi ≠ p) ∧ w.cell? ⟨g, i, none⟩ = some (.slice (some ⟨gi, 0, none⟩) 16 16) ∧ Ar w gi 0 .u8 (f i)
theorem Rw.same {w w' : World} {g p n k : Nat} {f : Nat → List Int} (h : Rw w g p n k f) (hg : w'.heap[g]? = w.heap[g]?) (hl : ∀ gi xs, g < gi → gi ≠ p → Ar w gi 0 .u8 xs → xs.length = 16 → Ar w' gi 0 .u8 xs) (hf : ∀ i, (f i).length = 16) : Rw w' g p n k f := by
  refine ⟨fun i hi => ?_, fun i hi => ?_⟩
  · rw [World.cell?_of_block (w := w) (w' := w') (a := ⟨g, i, none⟩) hg, World.frozen?_of_block (w := w) (w' := w') (a := ⟨g, i, none⟩) hg]
    exact h.1 i hi
  · obtain ⟨gi, h1, h2, h3⟩ := h.2 i hi
    refine ⟨gi, h1, ?_, hl gi _ h1.1 h1.2 h3 (hf i)⟩
    rw [World.cell?_of_block (w := w) (w' := w') (a := ⟨g, i, none⟩) hg]
    exact h2
theorem Rw.below {w w' : World} {g p n k : Nat} {f : Nat → List Int} (h : Rw w g p n k f) (hb : Below w.heap.size w w') (hg : g < w.heap.size) (hf : ∀ i, (f i).length = 16) : Rw w' g p n k f :=
  h.same (hb.block g hg) (fun _ _ _ _ hA hl => hA.below hb (hA.lt (by omega))) hf
theorem Rw.other {w w' : World} {g p n k : Nat} {f : Nat → List Int} (h : Rw w g p n k f) (ho : ∀ b', b' ≠ p → w'.heap[b']? = w.heap[b']?) (hg : g ≠ p) (hf : ∀ i, (f i).length = 16) : Rw w' g p n k f :=
  h.same (ho g hg) (fun gi _ _ hp hA _ => hA.heap (ho gi hp)) hf
theorem Rw.set {w : World} {g p n k : Nat} {f : Nat → List Int} (h : Rw w g p n k f) (hk : k < n) (g8 : Nat) (h8 : g < g8 ∧ g8 ≠ p) (hA : Ar w g8 0 .u8 (f k)) : Rw (w.setCell ⟨g, k, none⟩ (.slice (some ⟨g8, 0, none⟩) 16 16)) g p n (k + 1) f := by
  obtain ⟨cv, hc⟩ := Option.isSome_iff_exists.1 (h.1 k hk).1
  refine ⟨fun i hi => ?_, fun i hi => ?_⟩
  · refine ⟨?_, by rw [World.frozen?_setCell]; exact (h.1 i hi).2⟩
    by_cases e : k = i
    · subst e; rw [World.cell?_setCell_same _ _ _ hc]; rfl
    · rw [World.cell?_setCell_other _ _ _ _ (by intro hh; injection hh with _ h2; omega)]; exact (h.1 i hi).1
  · by_cases e : k = i
    · subst e
      exact ⟨g8, h8, World.cell?_setCell_same _ _ _ hc, hA.other (by show g8 ≠ g; omega) _⟩
    · obtain ⟨gi, h1, h2, h3⟩ := h.2 i (by omega)
      exact ⟨gi, h1, by rw [World.cell?_setCell_other _ _ _ _ (by intro hh; injection hh with _ h2; omega)]; exact h2, h3.other (by show gi ≠ g; omega) _⟩

/-- 'make([][]byte, n)' -/
theorem make_lawS {ops : Array Oper} {rest : List Oper} {o : Oper} {a : Act} {Q : Exit → Act → World → Prop} (w : World) (hg : o.guard = none) (l c : Operand) (hop : o.op = Op.makeSlice 72 l c)
    (L : Int) (n : Nat) (hl : a.eval l = .int .i64 L) (hc : a.eval c = .int .i64 L) (hL : L = (n : Int)) (hn : n ≤ 1000000) (f : Nat → List Int)
    (hK : ∀ w', (∀ p, Rw w' w.heap.size p n 0 f) → Below w.heap.size w w' → w.heap.size < w'.heap.size → wpList Tryz.prog ops Q rest (a.put o.dst (.slice (some ⟨w.heap.size, 0, none⟩) n n)) w') :
    wpList Tryz.prog ops Q (o :: rest) a w := by
  obtain ⟨i0, hi, hz0, hz1, hz2⟩ := info_parts info_bytesT
  refine wpList_make_full w hg l c 72 hop w.heap.size 22 i0 (.slice none 0 0) 1 Tryz.underlying72 hi hz0 hz1 .i64 .i64 L L n hl hc hL hL (by rw [hz2]; omega) (by simp only [maxLen]; omega) (Nat.le_refl _) fun w' h1 h2 => ?_
  have hlt : w.heap.size < w'.heap.size := (h1.lt w.heap.size rfl).2
  refine hK w' (fun p => ⟨fun i hi => ?_, fun i hi => by omega⟩) ((Below.refl _ w).grown h2 (Nat.le_refl _) (fun k hk => by cases hk)) hlt
  refine ⟨?_, h1.frozenAt i⟩
  rw [h1.cellAt i (by omega)]
  have e : (madeCells (Value.slice none 0 0).cells (n * 1)).toList = List.replicate n (Value.slice none 0 0) := by
    rw [Nat.mul_one]
    show (madeCells #[Value.slice none 0 0] n).toList = _
    rw [toList_madeCells_one]
  rw [e]
  simp [hi]

set_option linter.unusedSimpArgs false in
set_option maxRecDepth 20000 in
set_option maxHeartbeats 4000000 in
theorem list_any (v : Value) (xs : List Int) (n : Nat) (w : World) (hv : Byt w v xs) (hl : xs.length = 16) (hn : n ≤ 256) :
    Calls Tryz.prog 96 #[v, .int .i64 n] w fun e w' => ∃ g, e = .returned (.tuple #[.slice (some ⟨g, 0, none⟩) n n, .int .i64 0]) ∧ (∃ p, Rw w' g p n n (fun k => bt16 (tdn (nm16 xs) k))) ∧ g < w'.heap.size ∧ w.heap.size ≤ g ∧ Below w.heap.size w w' := by
  have HOF : Hid (∀ w', Below w.heap.size w w' → Calls Tryz.prog 119 #[v] w' fun e w'' => e = .returned (.agg (ints .u8 xs)) ∧ Below w'.heap.size w' w'') := fun w' h => tof_any v xs w' (hv.below h) hl
  have HX : Hid (B16 xs) := ⟨hl, hv.all⟩
  have HE : Hid (bt16 (tdn (nm16 xs) 0) = xs) := bt_nm xs ⟨hl, hv.all⟩
  have HD : Hid (∀ k w', Calls Tryz.prog 121 #[.agg (ints .u8 (bt16 (tdn (nm16 xs) k)))] w' fun e w'' => e = .returned (.agg (ints .u8 (bt16 (tdn (nm16 xs) (k + 1))))) ∧ Below w'.heap.size w' w'') := fun k w' => pdbl_any _ w' (tdn_lt _ k (nm16_lt xs hv.all))
  have HLS : Hid (∀ k w', Calls Tryz.prog 120 #[.agg (ints .u8 (bt16 (tdn (nm16 xs) k)))] w' fun e w'' => ∃ g, e = .returned (.slice (some ⟨g, 0, none⟩) 16 16) ∧ Ar w'' g 0 .u8 (bt16 (tdn (nm16 xs) k)) ∧ w'.heap.size ≤ g ∧ Below w'.heap.size w' w'') := fun k w' => tlst_any _ w' (bt16_len _) (bt16_all _)
  have HLN : Hid (∀ k, (bt16 (tdn (nm16 xs) k)).length = 16) := fun k => bt16_len _
  obtain ⟨ao, ca, rfl, ha1, ha2, ha3, ha4, ha5⟩ := hv
  rw [hl] at HOF ha1 ⊢
  clear ha3 ha4 ha5 hl
  obtain ⟨f, hf⟩ : ∃ f : Nat → List Int, f = fun k => bt16 (tdn (nm16 xs) k) := ⟨_, rfl⟩
  have ef : ∀ k, bt16 (tdn (nm16 xs) k) = f k := fun k => by rw [hf]
  rw [← hf]
  rw [ef] at HE
  simp only [ef] at HD HLS HLN
  clear ef hf
  have n0 : (0 : Int) ≤ (n : Int) := by omega
  have n1 : (n : Int) ≤ 256 := by omega
  go_enter Tryz.func96, Tryz.ntmps96
  go_wp2_with (first
    | (have q3 := s3; refine store_lawH _ rfl (.tmp 7) (.tmp 23) 136 rfl .u8 z16 xs w2.heap.size rfl rfl HA3.out 16 i_poly z16_len HX.out.1 ?_; intro w4 A4 B4 O4; have HA4 : Hid (Ar w4 w2.heap.size 0 .u8 (f 0)) := (by show Ar _ _ _ _ _; rw [HE.out]; exact A4); have HR4 : Hid (Rw w4 w.heap.size w2.heap.size n 0 f) := HR3.out.other O4 (by omega) HLN.out; clear A4 O4)
    | (have q2 := s2; refine new_lawF _ rfl 136 rfl .u8 z16 z_poly ?_; intro w3 A3 B3 s3; have HA3 : Hid (Ar w3 w2.heap.size 0 .u8 z16) := A3; have HR3 : Hid (Rw w3 w.heap.size w2.heap.size n 0 f) := ((HR1.out _).below B2 s1 HLN.out).below B3 (by omega) HLN.out; clear A3)
    | (have q1 := s1; go_at_call 119; refine (HOF.out _ B1).mono ?_; rintro e w2 ⟨rfl, B2⟩; have s2 := B2.size)
    | (at_make; refine make_lawS _ rfl _ _ rfl _ n rfl rfl rfl (by omega) f ?_; intro w1 R1 B1 s1; have HR1 : Hid (∀ p, Rw w1 w.heap.size p n 0 f) := R1; clear R1))
  have BW : Below w.heap.size w w4 := ((B1.trans (B2.mono (by omega))).trans (B3.mono (by omega))).trans (B4.mono (by omega))
  have og : w.heap.size < w2.heap.size := by omega
  clear HR1 HR3 HA3
  generalize hg0 : w.heap.size = g0 at *
  generalize w2.heap.size = g1 at *
  go_loopw [26] (fun i wr => ∃ k : Nat, k ≤ n ∧ i = .int .i64 k ∧ Ar wr g1 0 .u8 (f k) ∧ Rw wr g0 g1 n k f ∧ Below g0 w wr) (fun i _ => n - (intOf i).toNat)
  case atStart => exact ⟨0, Nat.zero_le _, rfl, HA4.out, HR4.out, BW⟩
  case round =>
    obtain ⟨k, hk, rfl, hA, hR, hB⟩ := hrel
    obtain ⟨wa, rfl⟩ : ∃ wx, wx = wr := ⟨_, rfl⟩
    have k0 : (0 : Int) ≤ (k : Int) := by omega
    have q1 : IntKind.i64.wrap (k : Int) = k := by rw [IntKind.wrap_i64]; omega
    have HA : Hid (Ar wa g1 0 .u8 (f k)) := hA
    have HR : Hid (Rw wa g0 g1 n k f) := hR
    have HB : Hid (Below g0 w wa) := hB
    have oa : g1 < wa.heap.size := hA.lt (by rw [HLN.out]; omega)
    clear hA hB hR
    by_cases hlt : k < n
    · have k1 : (k : Int) < (n : Int) := by omega
      have HDk : Hid (∀ w', Calls Tryz.prog 121 #[.agg (ints .u8 (f k))] w' fun e w'' => e = .returned (.agg (ints .u8 (f (k + 1)))) ∧ Below w'.heap.size w' w'') := HD.out k
      have HLk : Hid (∀ w', Calls Tryz.prog 120 #[.agg (ints .u8 (f k))] w' fun e w'' => ∃ g, e = .returned (.slice (some ⟨g, 0, none⟩) 16 16) ∧ Ar w'' g 0 .u8 (f k) ∧ w'.heap.size ≤ g ∧ Below w'.heap.size w' w'') := HLS.out k
      have HL2 : Hid ((f k).length = 16 ∧ (f (k + 1)).length = 16) := ⟨HLN.out _, HLN.out _⟩
      obtain ⟨p0, hp0⟩ : ∃ p, p = f k := ⟨_, rfl⟩
      have HP0 : Hid (p0 = f k) := hp0
      rw [← hp0] at HDk HLk HL2 HA
      clear hp0
      go_wp2_with (first
        | (have q8 := s8; refine store_lawH _ rfl (.tmp 7) (.tmp 35) 136 rfl .u8 p0 (f (k + 1)) g1 rfl rfl HA8.out 16 i_poly HL2.out.1 HL2.out.2 ?_; intro w9 A9 B9 O9; have HA9 : Hid (Ar w9 g1 0 .u8 (f (k + 1))) := A9; have HR9 : Hid (Rw w9 g0 g1 n (k + 1) f) := HR8.out.other O9 (by omega) HLN.out; have HB9 : Hid (Below g0 w w9) := HB8.out.trans (B9.mono (by omega)); clear A9 B9 O9)
        | (have q7 := o7; go_at_call 121; refine (HDk.out _).mono ?_; rintro e w8 ⟨rfl, B8⟩; have s8 := B8.size; have HA8 : Hid (Ar w8 g1 0 .u8 p0) := HA7.out.below B8 o7; have HR8 : Hid (Rw w8 g0 g1 n (k + 1) f) := HR7.out.below B8 (by omega) HLN.out; have HB8 : Hid (Below g0 w w8) := HB7.out.trans (B8.mono (by omega)); clear B8)
        | (have q7 := o7; refine load_law _ rfl (.tmp 7) 136 rfl .u8 p0 g1 0 rfl HA7.out 16 5 Tryz.underlying136 i_poly HL2.out.1 ?_)
        | (go_at_call 120; refine (HLk.out _).mono ?_; rintro e w6 ⟨g6, rfl, A6, h6, B6⟩; have s6 := B6.size; have HA6 : Hid (Ar w6 g1 0 .u8 p0) := HA.out.below B6 oa; have HR6 : Hid (Rw w6 g0 g1 n k f) := HR.out.below B6 (by omega) HLN.out; have HB6 : Hid (Below g0 w w6) := HB.out.trans (B6.mono (by omega)); obtain ⟨cv, c6⟩ := Option.isSome_iff_exists.1 (HR6.out.1 k hlt).1; have f6 := (HR6.out.1 k hlt).2; have HA7 : Hid (Ar (w6.setCell ⟨g0, k, none⟩ (.slice (some ⟨g6, 0, none⟩) 16 16)) g1 0 .u8 p0) := HA6.out.other (by show g1 ≠ g0; omega) _; have HR7 : Hid (Rw (w6.setCell ⟨g0, k, none⟩ (.slice (some ⟨g6, 0, none⟩) 16 16)) g0 g1 n (k + 1) f) := HR6.out.set hlt g6 ⟨by omega, by omega⟩ (by rw [← HP0.out]; exact A6); have HB7 : Hid (Below g0 w (w6.setCell ⟨g0, k, none⟩ (.slice (some ⟨g6, 0, none⟩) 16 16))) := HB6.out.setCell (by show g0 ≤ g0; omega) _; have o7 : g1 < (w6.setCell ⟨g0, k, none⟩ (.slice (some ⟨g6, 0, none⟩) 16 16)).heap.size := HA7.out.lt (by rw [HL2.out.1]; omega); clear A6 B6)
        | (refine load_law _ rfl (.tmp 7) 136 rfl .u8 p0 g1 0 rfl HA.out 16 5 Tryz.underlying136 i_poly HL2.out.1 ?_))
      go_roundw
      case rel => exact ⟨k + 1, by omega, by go_num, HA9.out, HR9.out, HB9.out⟩
      case measure => simp [intOf]; omega
    · have hkn : k = n := by omega
      subst hkn
      go_wp2
      go_ret2
      exact ⟨g0, rfl, ⟨g1, HR.out⟩, by omega, by omega, by rw [hg0]; exact HB.out⟩

set_option maxHeartbeats 2000000 in
theorem list_no (v : Value) (xs : List Int) (n : Int) (w : World) (hv : Byt w v xs) (h : xs.length ≠ 16 ∨ n < 0 ∨ 256 < n) :
    Calls Tryz.prog 96 #[v, .int .i64 n] w fun e w' => e = .returned (.tuple #[.slice none 0 0, .int .i64 2]) ∧ w' = w := by
  obtain ⟨ao, ca, rfl, ha1, ha2, -, -, -⟩ := hv
  by_cases hl : xs.length = 16
  · rw [hl] at ha1 ⊢
    by_cases h0 : n < 0
    · have h0' : (n < 0) = True := by simp [h0]
      go_enter Tryz.func96, Tryz.ntmps96
      go_wp2
      go_ret2
      exact ⟨rfl, rfl⟩
    · have h1 : 256 < n := by omega
      have h2 : 0 ≤ n := by omega
      go_enter Tryz.func96, Tryz.ntmps96
      go_wp2
      go_ret2
      exact ⟨rfl, rfl⟩
  · have h2 : ((xs.length : Int) != 16) = true := by simp; omega
    go_enter Tryz.func96, Tryz.ntmps96
    go_wp2
    go_ret2
    exact ⟨rfl, rfl⟩
end Go.Proofs.YtbkaecjkgjkheaaGreatDoor.tw

/- What xts' Masks answers. No claim of its own. -/
namespace Go.Proofs.YtbkaecjkgjkheaaGreatDoor.xt
open Go.RowKit
set_option maxRecDepth 20000

/-- a row of n masks in block g -/
def Msks (w : World) (g n M : Nat) : Prop := (∃ p, tw.Rw w g p n n (fun k => msk M k)) ∧ g < w.heap.size
theorem Msks.below {w w' : World} {g n M : Nat} (h : Msks w g n M) (hb : Below w.heap.size w w') : Msks w' g n M := by
  obtain ⟨⟨p, h1⟩, h2⟩ := h
  exact ⟨⟨p, h1.below hb h2 (fun i => (msk_blk M i).1)⟩, Nat.lt_of_lt_of_le h2 hb.size⟩
theorem Msks.at_ {w : World} {g n M : Nat} (h : Msks w g n M) (k : Nat) (hk : k < n) : ∃ gi, w.cell? ⟨g, k, none⟩ = some (.slice (some ⟨gi, 0, none⟩) 16 16) ∧ Byt w (.slice (some ⟨gi, 0, none⟩) 16 16) (msk M k) := by
  obtain ⟨⟨p, h1⟩, h2⟩ := h
  obtain ⟨gi, -, h3, h4⟩ := h1.2 k hk
  exact ⟨gi, h3, h4.bytG (msk_blk M k).2 16 16 (msk_blk M k).1 (by omega) (by omega)⟩

set_option maxHeartbeats 2000000 in
theorem masks_any (c : Nat) (v : Value) (dk tk ab : List Int) (n : Nat) (w : World) (hc : Cip w c dk tk) (htl : tk.length = 32) (hta : AllB tk) (hv : Byt w v ab) (hal : ab.length = 16) (hn : n ≤ 256) :
    Calls Tryz.prog 61 #[.pointer (some ⟨c, 0, none⟩), v, .int .i64 (n : Int)] w fun e w' => ∃ g, e = .returned (.tuple #[.slice (some ⟨g, 0, none⟩) n n, .int .i64 0]) ∧ Msks w' g n (nm16 (encr tk ab)) ∧ w.heap.size ≤ g ∧ Below w.heap.size w w' := by
  obtain ⟨kd, kt, c0, c1, -, k1⟩ := hc
  have zb := encr_blk tk htl hta ab ⟨hal, hv.all⟩
  have S1 : Hid (Calls Tryz.prog 36 #[.pointer (some ⟨kt, 0, none⟩), v] w fun e w' => ∃ g, e = .returned (.tuple #[.slice (some ⟨g, 0, none⟩) 16 16, .int .i64 0]) ∧ Ar w' g 0 .u8 (encr tk ab) ∧ w.heap.size ≤ g ∧ Below w.heap.size w w') := encrypt_any v ab tk kt w k1 htl hta hv hal
  have S2 : Hid (∀ u w0, Byt w0 u (encr tk ab) → Calls Tryz.prog 96 #[u, .int .i64 (n : Int)] w0 fun e w' => ∃ g, e = .returned (.tuple #[.slice (some ⟨g, 0, none⟩) n n, .int .i64 0]) ∧ Msks w' g n (nm16 (encr tk ab)) ∧ w0.heap.size ≤ g ∧ Below w0.heap.size w0 w') := fun u w0 h =>
    (tw.list_any u (encr tk ab) n w0 h zb.1 hn).mono fun _ _ ⟨g, h1, h2, h3, h4, h5⟩ => ⟨g, h1, ⟨h2, h3⟩, h4, h5⟩
  have ZB : Hid ((encr tk ab).length = 16 ∧ AllB (encr tk ab)) := ⟨zb.1, zb.2⟩
  generalize nm16 (encr tk ab) = M at *
  generalize encr tk ab = zs at *
  clear c0 k1 zb hal htl hta hv
  go_enter Tryz.func61, Tryz.ntmps61
  go_wp2_with (first
    | (have q1 := L1; go_at_call 96; refine (S2.out _ _ Y1.out).mono ?_; rintro e w2 ⟨g2, rfl, m2, L2, B2⟩; have M2 : Hid (Msks w2 g2 n M) := m2; clear m2)
    | (go_at_call 36; refine (S1.out).mono ?_; rintro e w1 ⟨g1, rfl, a1, L1, B1⟩; have Y1 : Hid (Byt w1 (.slice (some ⟨g1, 0, none⟩) 16 16) zs) := a1.bytG ZB.out.2 16 16 ZB.out.1 (by omega) (by omega); clear a1))
  have z1 := B1.size
  go_ret2
  exact ⟨_, rfl, M2.out, by omega, B1.trans (B2.mono z1)⟩

set_option maxHeartbeats 1000000 in
theorem masks_nil (v : Value) (n : Int) (w : World) :
    Calls Tryz.prog 61 #[.pointer none, v, .int .i64 n] w fun e w' => e = .returned (.tuple #[.slice none 0 0, .int .i64 2]) ∧ w' = w := by
  go_enter Tryz.func61, Tryz.ntmps61
  go_wp2
  go_ret2
  exact ⟨rfl, rfl⟩

set_option maxHeartbeats 1000000 in
theorem masks_raw (c : Nat) (p v : Value) (n : Int) (w : World) (c1 : w.cell? ⟨c, 1, none⟩ = some p) (hp : ∃ q, p = .pointer q) (ht : Calls Tryz.prog 63 #[p, v] w fun e w' => e = .returned (.bool false) ∧ w' = w) :
    Calls Tryz.prog 61 #[.pointer (some ⟨c, 0, none⟩), v, .int .i64 n] w fun e w' => e = .returned (.tuple #[.slice none 0 0, .int .i64 2]) ∧ w' = w := by
  have S1 : Hid (Calls Tryz.prog 36 #[p, v] w fun e w' => e = .returned (.tuple #[.slice none 0 0, .int .i64 2]) ∧ w' = w) := encrypt_no p v w ht
  clear ht
  obtain ⟨q, rfl⟩ := hp
  go_enter Tryz.func61, Tryz.ntmps61
  go_wp2_with (go_at_call 36; refine (S1.out).mono ?_; rintro e wx ⟨rfl, hw⟩; obtain rfl := hw.symm)
  go_ret2
  exact ⟨rfl, rfl⟩

theorem masks_len (c : Nat) (v : Value) (dk tk ab : List Int) (n : Int) (w : World) (hc : Cip w c dk tk) (hv : Byt w v ab) (hal : ¬ ab.length = 16) :
    Calls Tryz.prog 61 #[.pointer (some ⟨c, 0, none⟩), v, .int .i64 n] w fun e w' => e = .returned (.tuple #[.slice none 0 0, .int .i64 2]) ∧ w' = w := by
  obtain ⟨kd, kt, c0, c1, -, k1⟩ := hc
  exact masks_raw c _ v n w c1 ⟨_, rfl⟩ (takes_len v ab tk kt w k1 hv hal)

set_option maxHeartbeats 2000000 in
theorem masks_n (c : Nat) (v : Value) (dk tk ab : List Int) (n : Int) (w : World) (hc : Cip w c dk tk) (htl : tk.length = 32) (hta : AllB tk) (hv : Byt w v ab) (hal : ab.length = 16) (hn : n < 0 ∨ 256 < n) :
    Calls Tryz.prog 61 #[.pointer (some ⟨c, 0, none⟩), v, .int .i64 n] w fun e w' => e = .returned (.tuple #[.slice none 0 0, .int .i64 2]) ∧ Below w.heap.size w w' := by
  obtain ⟨kd, kt, c0, c1, -, k1⟩ := hc
  have zb := encr_blk tk htl hta ab ⟨hal, hv.all⟩
  have S1 : Hid (Calls Tryz.prog 36 #[.pointer (some ⟨kt, 0, none⟩), v] w fun e w' => ∃ g, e = .returned (.tuple #[.slice (some ⟨g, 0, none⟩) 16 16, .int .i64 0]) ∧ Ar w' g 0 .u8 (encr tk ab) ∧ w.heap.size ≤ g ∧ Below w.heap.size w w') := encrypt_any v ab tk kt w k1 htl hta hv hal
  have S2 : Hid (∀ u w0, Byt w0 u (encr tk ab) → Calls Tryz.prog 96 #[u, .int .i64 n] w0 fun e w' => e = .returned (.tuple #[.slice none 0 0, .int .i64 2]) ∧ w' = w0) := fun u w0 h => tw.list_no u (encr tk ab) n w0 h (Or.inr hn)
  have ZB : Hid ((encr tk ab).length = 16 ∧ AllB (encr tk ab)) := ⟨zb.1, zb.2⟩
  generalize encr tk ab = zs at *
  clear c0 k1 zb hal htl hta hv hn
  go_enter Tryz.func61, Tryz.ntmps61
  go_wp2_with (first
    | (have q1 := L1; go_at_call 96; refine (S2.out _ _ Y1.out).mono ?_; rintro e wx ⟨rfl, hw⟩; obtain rfl := hw.symm)
    | (go_at_call 36; refine (S1.out).mono ?_; rintro e w1 ⟨g1, rfl, a1, L1, B1⟩; have Y1 : Hid (Byt w1 (.slice (some ⟨g1, 0, none⟩) 16 16) zs) := a1.bytG ZB.out.2 16 16 ZB.out.1 (by omega) (by omega); clear a1))
  go_ret2
  exact ⟨rfl, B1⟩
end Go.Proofs.YtbkaecjkgjkheaaGreatDoor.xt

/- Rows of slices that a call has made, words of four bytes in them; 'append' of bytes and of a slice. No claim of its own. -/
namespace Go.Proofs.YtbkaecjkgjkheaaGreatDoor
open Go.RowKit
set_option maxRecDepth 20000

/-- 'append(out, s...)' of bytes, out of the call's own -/
theorem pushs_lawG {ops : Array Oper} {rest : List Oper} {o : Oper} {a : Act} {Q : Exit → Act → World → Prop} (w : World) (hg : o.guard = none) (s x : Operand) (hop : o.op = .call { callee := .builtin .append, args := #[s, x], argTypes := #[22, 22] })
    (B : Nat) (hB : B ≤ w.heap.size) (v vy : Value) (xs ys : List Int) (hs : a.eval s = v) (hx : a.eval x = vy) (hown : Own B w v xs) (hy : Byt w vy ys) (hn : xs.length ≤ 1099511627776) (hm : ys.length ≤ 1099511627776)
    (hK : ∀ v' w', Own B w' v' (xs ++ ys) → Below B w w' → wpList Tryz.prog ops Q rest (a.put o.dst v') w') :
    wpList Tryz.prog ops Q (o :: rest) a w := by
  obtain ⟨i0, hi, hz0, hz1, hz2⟩ := info_parts info_u8
  obtain ⟨ao, cap, rfl, h1, h2, h3, h4, h5⟩ := hy
  cases ao with
  | none =>
    have hc := h4 rfl
    subst hc
    have : ys = [] := List.eq_nil_of_length_eq_zero (by omega)
    subst this
    refine wpList_append_own_none hg s x 22 hop B 5 i0 1 Tryz.underlying22 hi v xs.length _ hs hown hx (hK v w ?_ (Below.refl _ _))
    rwa [List.append_nil]
  | some ad =>
    refine wpList_append_own _ hg s x 22 hop B 5 i0 (.int .u8 0) 1 1 Tryz.underlying22 hi hz0 hz1 hz2 rfl (by decide) v xs.length _ hs hown ad ys.length cap (ys.map (Value.int .u8)) hx (by simp) ?_ ?_ (by simp only [maxLen]; omega) (by omega) hB fun v' w' h1 h2 _ => ?_
    · intro j u hj
      have hjl : j < ys.length := by have := (List.getElem?_eq_some_iff.1 hj).1; simpa using this
      obtain ⟨b, off, e, hc⟩ := h5 (by omega)
      cases e
      rw [Addr.add_mid, hc j hjl, ← hj]
      simp [gb, List.getD, hjl]
    · intro u hu
      simp only [List.mem_map] at hu
      obtain ⟨y, _, rfl⟩ := hu
      rfl
    · refine hK v' w' ?_ ?_
      · show w'.ownsRow B 5 1 v' (xs ++ ys).length ((xs ++ ys).map (Value.int .u8))
        simpa using h1
      · exact (Below.refl B w).grown h2 hB fun k hk => (World.ownsRow.lt hown k hk).1

theorem info_bytes : (Tryz.prog.info? 22).map (fun i => (i.zero, i.size, i.bytes)) = some (some (.slice none 0 0), 1, 24) := by kernel_rfl
theorem und_bytess : Tryz.prog.underlying 72 = some (.slice (Tryz.prog.elem 72)) := by kernel_rfl
theorem elem_bytess : Tryz.prog.elem 72 = 22 := by kernel_rfl

/-- v owns the slices us, in a block from B on -/
def OwnS (B : Nat) (w : World) (v : Value) (us : List Value) : Prop := w.ownsRow B 22 1 v us.length us
theorem OwnS.empty (w : World) {B : Nat} (hB : B ≤ w.heap.size) : OwnS B (w.alloc (.cells #[] 22)) (.slice (some ⟨w.heap.size, 0, none⟩) 0 0) [] :=
  World.ownsRow_made w #[] 0 hB (by simp [maxLen]) (by simp)
theorem OwnS.at_ {B : Nat} {w : World} {v : Value} {us : List Value} (h : OwnS B w v us) (hp : 0 < us.length) :
    ∃ g cap cur, v = .slice (some ⟨g, 0, none⟩) us.length cap ∧ us.length ≤ cap ∧ cap ≤ 9223372036854775807 ∧ B ≤ g ∧ w.heap[g]? = some (.cells cur 22 (0, 0)) ∧ ∀ t u, us[t]? = some u → w.cell? ⟨g, t, none⟩ = some u := by
  rcases h.2 with ⟨rfl, hn⟩ | ⟨g, cap, cur, rfl, hg, hb, hc, hm, hs, ht⟩
  · omega
  · refine ⟨g, cap, cur, rfl, hc, by simpa [maxLen] using hm, hg, hb, fun t u hu => ?_⟩
    have := World.ownsRow.cells h (g := g) rfl t u hu
    rwa [Addr.add_lit, Nat.zero_add] at this
theorem OwnS.below {B : Nat} {w w' : World} {v : Value} {us : List Value} (h : OwnS B w v us) (hb : Below w.heap.size w w') : OwnS B w' v us :=
  World.ownsRow.kept (row := none) h ⟨hb.os, hb.tape, hb.output, hb.size, fun j hj _ => hb.block j hj⟩ (by cases hv : v.ownBlock <;> simp)

/-- u is a slice of the four bytes x, which lie below B or in a block of bytes -/
def Wrd4 (B : Nat) (w : World) (u : Value) (x : List Int) : Prop :=
  ∃ b off cap, u = .slice (some ⟨b, off, none⟩) 4 cap ∧ 4 ≤ cap ∧ cap ≤ 9223372036854775807 ∧ (b < B ∨ ∃ cur f, w.heap[b]? = some (.cells cur 5 f)) ∧ ∀ j, j < 4 → w.cell? ⟨b, off + j, none⟩ = some (.int .u8 (gb x j))
theorem Wrd4.byt {B : Nat} {w : World} {u : Value} {x : List Int} (h : Wrd4 B w u x) (hx : Wd x) : Byt w u x := by
  obtain ⟨b, off, cap, rfl, h1, h2, _, h4⟩ := h
  exact ⟨some ⟨b, off, none⟩, cap, by rw [hx.1], by rw [hx.1]; exact h1, h2, hx.2, (by intro h; cases h), fun _ => ⟨b, off, rfl, fun t ht => h4 t (by rw [hx.1] at ht; exact ht)⟩⟩
theorem Wrd4.below {B : Nat} {w w' : World} {u : Value} {x : List Int} (h : Wrd4 B w u x) (hb : Below w.heap.size w w') : Wrd4 B w' u x := by
  obtain ⟨b, off, cap, rfl, h1, h2, h3, h4⟩ := h
  have hlt : b < w.heap.size := World.block_lt_of_cell? w _ (h4 0 (by omega))
  refine ⟨b, off, cap, rfl, h1, h2, ?_, fun j hj => by rw [hb.cell hlt]; exact h4 j hj⟩
  rw [hb.block b hlt]; exact h3
/-- it lasts when a row of slices of the call's own grows -/
theorem Wrd4.grown {B : Nat} {w w' : World} {u v : Value} {x : List Int} {us : List Value} (h : Wrd4 B w u x) (ho : OwnS B w v us) (hg : w.grownBy w' v.ownBlock) : Wrd4 B w' u x := by
  obtain ⟨b, off, cap, rfl, h1, h2, h3, h4⟩ := h
  have hlt : b < w.heap.size := World.block_lt_of_cell? w _ (h4 0 (by omega))
  have hne : some b ≠ v.ownBlock := by
    rcases ho.2 with ⟨rfl, _⟩ | ⟨g, cap, cur, rfl, hgB, hb, _⟩
    · simp [Value.ownBlock]
    · intro e
      simp [Value.ownBlock] at e
      subst e
      rcases h3 with h3 | ⟨cur', f, h3⟩
      · omega
      · rw [hb] at h3
        injection h3 with h3
        injection h3 with _ h5
        exact absurd h5 (by decide)
  have e := hg.block b hlt hne
  refine ⟨b, off, cap, rfl, h1, h2, by rw [e]; exact h3, fun j hj => ?_⟩
  rw [World.cell?_of_block (w := w) (w' := w') (a := ⟨b, off + j, none⟩) e]; exact h4 j hj
theorem Own.wrd4 {B B' : Nat} {w : World} {v : Value} {x : List Int} (h : Own B' w v x) (hx : Wd x) : Wrd4 B w v x := by
  have hb := h.byt hx.2
  rcases h.2 with ⟨rfl, hn⟩ | ⟨g, cap, cur, rfl, hg, hbb, hc, hm, hs, ht⟩
  · rw [hx.1] at hn; omega
  · obtain ⟨ao, cap', e, h1, h2, h3, h4, h5⟩ := hb
    obtain ⟨b, off, rfl, hcell⟩ := h5 (by rw [hx.1]; omega)
    injection e with e1 e2 e3
    injection e1 with e1
    injection e1 with e4 e5
    subst e4 e3 e5
    refine ⟨g, 0, cap, by rw [hx.1], by rw [← hx.1]; exact h1, h2, Or.inr ⟨cur, (0, 0), hbb⟩, fun j hj => hcell j (by rw [hx.1]; exact hj)⟩

section
variable {ops : Array Oper} {rest : List Oper} {o : Oper} {a : Act} {Q : Exit → Act → World → Prop}
/-- 'append(w, u)' of a slice, w of the call's own -/
theorem push_lawS (w0 : World) (hg : o.guard = none) (s x : Operand) (hop : o.op = .call { callee := .builtin .append, args := #[s, x], argTypes := #[72, 72] })
    (B : Nat) (hB : B ≤ w0.heap.size) (v : Value) (us : List Value) (u : Value) (hu : u.oneCell' = true) (hs : a.eval s = v) (hx : a.eval x = .slice (some ⟨w0.heap.size, 0, none⟩) 1 1) (hown : OwnS B w0 v us) (hn : us.length ≤ 1000)
    (hK : ∀ v' w', OwnS B w' v' (us ++ [u]) → Below B w0 w' → (∀ u' y, Wrd4 B w0 u' y → Wrd4 B w' u' y) → wpList Tryz.prog ops Q rest (a.put o.dst v') w') :
    wpList Tryz.prog ops Q (o :: rest) a (w0.alloc (.cells #[u] 22)) := by
  obtain ⟨i0, hi, hz0, hz1, hz2⟩ := info_parts info_bytes
  have hown2 : OwnS B (w0.alloc (.cells #[u] 22)) v us := World.ownsRow.alloc hown _
  refine wpList_append_own _ hg s x 72 hop B 22 i0 (.slice none 0 0) 1 24 Tryz.underlying72 hi hz0 hz1 hz2 rfl (by decide) v us.length _ hs hown2 ⟨w0.heap.size, 0, none⟩ 1 1 [u] hx rfl ?_ ?_ (by simp only [maxLen]; omega) (by omega) (by simp; omega) fun v' w' h1 h2 _ => ?_
  · intro j y hj
    match j, hj with
    | 0, hj => simp at hj; subst hj; simp [Addr.add]
  · intro y hy; simp at hy; subst hy; exact hu
  · refine hK v' w' ?_ ?_ fun u' y h => (h.below ((Below.refl _ _).alloc (Nat.le_refl _) _)).grown hown2 h2
    · show w'.ownsRow B 22 1 v' (us ++ [u]).length (us ++ [u])
      simpa using h1
    · refine ((Below.refl B w0).alloc hB _).grown h2 (by simp; omega) fun k hk => ?_
      exact (World.ownsRow.lt hown k hk).1
end

section
variable {ops : Array Oper} {o : Oper} {a : Act} {Q : Exit → Act → World → Prop} {K : Act → World → Prop} {E : Prop}
/-- '[]byte{x0, x1, x2, x3}' in a region that draws its order -/
theorem step_build4 (w : World) (hg : o.guard = none) (d : Option Tmp) (hd : o.dst = d) (x0 x1 x2 x3 : Operand) (hop : o.op = Op.buildSlice 22 4 #[(0, x0), (1, x1), (2, x2), (3, x3)]) (c0 c1 c2 c3 : Int)
    (h0 : a.eval x0 = .int .u8 c0) (h1 : a.eval x1 = .int .u8 c1) (h2 : a.eval x2 = .int .u8 c2) (h3 : a.eval x3 = .int .u8 c3)
    (hK : ∀ w', Ar w' w.heap.size 0 .u8 [c0, c1, c2, c3] → Below w.heap.size w w' → w.heap.size < w'.heap.size → K (a.put d (.slice (some ⟨w.heap.size, 0, none⟩) 4 4)) w') : if Region.wanted o (yielded ops a.tmps) = true then Oper.wp Tryz.prog o a w K Q else E := by
  have hw : Region.wanted o (yielded ops a.tmps) = true := by simp [Region.wanted, hg]
  rw [if_pos hw]
  subst hd
  have hrun : (Instr.buildSlice 22 4 #[(0, .int .u8 c0), (1, .int .u8 c1), (2, .int .u8 c2), (3, .int .u8 c3)]).run Tryz.prog w = .ok (.slice (some ⟨w.heap.size, 0, none⟩) 4 4) (w.alloc (.cells (ints .u8 [c0, c1, c2, c3]) 5)) := by kernel_rfl
  unfold Oper.wp execOp
  simp only [hop, List.map_toArray, List.map_cons, List.map_nil, h0, h1, h2, h3, Sem.run_bind, Sem.run_pure, Result.andThen_ok, hrun]
  exact hK _ (Ar.new w _ _ _) ((Below.refl _ _).alloc (Nat.le_refl _) _) (by simp)
end
end Go.Proofs.YtbkaecjkgjkheaaGreatDoor

