/- What Check of the program answers. -/
import Derived.Test.YtmpppdbomdepoaaGreatDoorSoItems
import Derived.Test.YtmpppdbomdepoaaGreatDoorSoAns
import Derived.Deep.RegionHeld3
import Derived.Laws.EntriesVeiled
namespace Go.Proofs.YtmpppdbomdepoaaGreatDoor.So
open Go.RowKit Go.Shelf Ky
open Pa (Tx)

attribute [local go_sem] Oper.semAt_some

set_option maxRecDepth 100000 in
set_option maxHeartbeats 400000 in
theorem wrong1_any {W0 : World} {X : Nat → Prop} {f : Value} {c : It → It → Int} {D : It → Prop} (hf : Cmp W0 X f c D) (x : Nat) (a b : It) (w : World) (hB : Kp X W0 w) (hx : w.cell? ⟨x, 0, none⟩ = some f) (ha : D a) (hb : D b) :
    Calls Tryz.prog 121 #[ia a, ia b, .pointer (some ⟨x, 0, none⟩)] w fun e w' => e = .returned (.bool (decide (0 ≤ c a b))) ∧ Below w.heap.size w w' := by
  obtain ⟨i1, c1, rfl, e1, k1⟩ := hf
  have hxl : x < w.heap.size := cell_lt hx
  have K1 : Hid (∀ W, Below w.heap.size w W → Calls Tryz.prog i1 (#[ia a, ia b] ++ c1) W fun e w' => e = .returned (.int .i64 (c a b)) ∧ Below W.heap.size W w') := fun W h => k1 W (hB.trans (Kp.of h (X := X)) (fun _ _ q => q) (fun _ _ q => q)) a b ha hb
  clear k1 ha hb hB
  generalize c a b = r1 at *
  obtain ⟨al, ak, ap⟩ := a
  obtain ⟨bl, bk, bp⟩ := b
  unfold ia at *
  simp only at K1 ⊢
  have hB0 : Hid (∀ o1 o2, Below w.heap.size w ((w.alloc o1).alloc o2)) := fun o1 o2 => ((Below.refl _ w).alloc (Nat.le_refl _) _).alloc (by simp) _
  go_enter Tryz.func121, Tryz.ntmps121
  go_wp2_with fail
  refine (unhide K1 _ (unhide hB0 _ _)).mono ?_
  rintro e w1 ⟨rfl, b1⟩
  have HB1 : Hid (Below w.heap.size w w1) := (unhide hB0 _ _).trans (b1.mono (by simp; omega))
  clear b1 hB0 K1
  go_wp2_with fail
  go_ret
  exact ⟨by congr 2, unhide HB1⟩
set_option maxRecDepth 100000 in
set_option maxHeartbeats 400000 in
theorem wrong2_any {W0 : World} {X : Nat → Prop} {f : Value} {c : It → It → Int} {D : It → Prop} (hf : Cmp W0 X f c D) (x : Nat) (a b : It) (w : World) (hB : Kp X W0 w) (hx : w.cell? ⟨x, 0, none⟩ = some f) (ha : D a) (hb : D b) :
    Calls Tryz.prog 122 #[ia a, ia b, .pointer (some ⟨x, 0, none⟩)] w fun e w' => e = .returned (.bool (decide (0 < c a b))) ∧ Below w.heap.size w w' := by
  obtain ⟨i1, c1, rfl, e1, k1⟩ := hf
  have hxl : x < w.heap.size := cell_lt hx
  have K1 : Hid (∀ W, Below w.heap.size w W → Calls Tryz.prog i1 (#[ia a, ia b] ++ c1) W fun e w' => e = .returned (.int .i64 (c a b)) ∧ Below W.heap.size W w') := fun W h => k1 W (hB.trans (Kp.of h (X := X)) (fun _ _ q => q) (fun _ _ q => q)) a b ha hb
  clear k1 ha hb hB
  generalize c a b = r1 at *
  obtain ⟨al, ak, ap⟩ := a
  obtain ⟨bl, bk, bp⟩ := b
  unfold ia at *
  simp only at K1 ⊢
  have hB0 : Hid (∀ o1 o2, Below w.heap.size w ((w.alloc o1).alloc o2)) := fun o1 o2 => ((Below.refl _ w).alloc (Nat.le_refl _) _).alloc (by simp) _
  go_enter Tryz.func122, Tryz.ntmps122
  go_wp2_with fail
  refine (unhide K1 _ (unhide hB0 _ _)).mono ?_
  rintro e w1 ⟨rfl, b1⟩
  have HB1 : Hid (Below w.heap.size w w1) := (unhide hB0 _ _).trans (b1.mono (by simp; omega))
  clear b1 hB0 K1
  go_wp2_with fail
  go_ret
  exact ⟨by congr 2, unhide HB1⟩

theorem bx_new {W W' : World} {x : Value} {e : TypeId} (b : Below (W.alloc (.cells #[x] e)).heap.size (W.alloc (.cells #[x] e)) W') : W'.cell? ⟨W.heap.size, 0, none⟩ = some x ∧ W'.frozen? ⟨W.heap.size, 0, none⟩ = false ∧ W.heap.size < W'.heap.size := by
  have h := (b.block W.heap.size (by simp)).trans (heap_alloc_new W _)
  exact ⟨cell_of_row _ _ 0 _ _ _ h, by simp [World.frozen?, h], (Array.getElem?_eq_some_iff.1 h).1⟩
theorem bx_newd {W W' : World} {x : Value} {e : TypeId} (b : Below (W.alloc (.cells #[x] e)).drew.heap.size (W.alloc (.cells #[x] e)).drew W') : W'.cell? ⟨W.heap.size, 0, none⟩ = some x ∧ W'.frozen? ⟨W.heap.size, 0, none⟩ = false ∧ W.heap.size < W'.heap.size := by
  have h := (b.block W.heap.size (by show W.heap.size < (W.alloc _).heap.size; simp)).trans (heap_alloc_new W (.cells #[x] e))
  exact ⟨cell_of_row _ _ 0 _ _ _ h, by simp [World.frozen?, h], (Array.getElem?_eq_some_iff.1 h).1⟩
theorem bx_step {W W' : World} {p : Nat} {x : Value} (h1 : W.cell? ⟨p, 0, none⟩ = some x) (h2 : W.frozen? ⟨p, 0, none⟩ = false) (h3 : p < W.heap.size) (b : Below W.heap.size W W') : W'.cell? ⟨p, 0, none⟩ = some x ∧ W'.frozen? ⟨p, 0, none⟩ = false ∧ p < W'.heap.size :=
  ⟨(b.cell (p := ⟨p, 0, none⟩) h3).trans h1, (b.frozen (p := ⟨p, 0, none⟩) h3).trans h2, Nat.lt_of_lt_of_le h3 b.size⟩
theorem h7_set {w W : World} {o : Ky.Ord} {p : Nat} {v : Value} (h : H7 w o W) (hp : w.heap.size < p) : H7 w o (W.setCell ⟨p, 0, none⟩ v) :=
  H7.of ⟨(Below.heap_setCell _ _ _ _ (by simp; omega)).trans h.held.1, h.held.2.setCell (p := ⟨p, 0, none⟩) (by simp; omega) _⟩
/-- blocks that are no closure's of those that were made between W and W' -/
def Free (W W' : World) (X : Nat → Prop) : Prop := ∀ i, X i → i < W.heap.size ∨ W'.heap.size ≤ i
theorem cell_set {W : World} {p : Nat} {x v : Value} (h : W.cell? ⟨p, 0, none⟩ = some x) : (W.setCell ⟨p, 0, none⟩ v).cell? ⟨p, 0, none⟩ = some v := World.cell?_setCell_same (a := ⟨p, 0, none⟩) (v := v) (w := W) h
theorem free0 (W W' : World) : Free W W' (fun _ => False) := fun _ q => q.elim
theorem Cmp.wide {W : World} {X X' : Nat → Prop} {f : Value} {c : It → It → Int} {D : It → Prop} (h : Cmp W X f c D) (hX : ∀ i, i < W.heap.size → X' i → X i) : Cmp W X' f c D := by
  obtain ⟨id, cap, h1, h2, h3⟩ := h
  exact ⟨id, cap, h1, h2, fun W' k => h3 W' ⟨k.os, k.tape, k.output, k.size, fun i hi hn => k.block i hi (fun q => hn (hX i hi q))⟩⟩
set_option maxRecDepth 100000 in
set_option maxHeartbeats 400000 in
theorem byKeysX (o : Ky.Ord) (w : World) :
    Calls Tryz.prog 26 #[ov o] w fun e w' => ∃ v, e = .returned v ∧ (∀ X, Free w w' X → Cmp w' X v (cmpK o) DI) ∧ Below w.heap.size w w' := by
  have hmf : ∀ (fn : Fn) (first cap : Array Value) (w : World), (Instr.makeFunc fn first cap).run Tryz.prog w = .ok (.func fn first cap) w := fun _ _ _ _ => rfl
  unfold ov
  go_enter Tryz.func26, Tryz.ntmps26
  go_wp2_with fail
  go_ret
  refine ⟨_, rfl, fun X hX => ⟨_, _, rfl, enters_of Tryz.func82 (by kernel_rfl) rfl, fun W' hk a b ha hb => byKeys1_any o w.heap.size a b W' ?_ ha hb⟩, (Below.refl _ _).alloc (Nat.le_refl _) _⟩
  exact (hk.block w.heap.size (by simp) (fun q => by have := hX _ q; rw [World.size_alloc] at this; omega)).trans (heap_alloc_new w _)
set_option maxRecDepth 100000 in
set_option maxHeartbeats 400000 in
theorem byBytesX (o : Ky.Ord) (w : World) :
    Calls Tryz.prog 28 #[ov o] w fun e w' => ∃ v, e = .returned v ∧ (∀ X, Free w w' X → Cmp w' X v (cmpY o) DI) ∧ Below w.heap.size w w' := by
  have hmf : ∀ (fn : Fn) (first cap : Array Value) (w : World), (Instr.makeFunc fn first cap).run Tryz.prog w = .ok (.func fn first cap) w := fun _ _ _ _ => rfl
  unfold ov
  go_enter Tryz.func28, Tryz.ntmps28
  go_wp2_with fail
  go_ret
  refine ⟨_, rfl, fun X hX => ⟨_, _, rfl, enters_of Tryz.func85 (by kernel_rfl) rfl, fun W' hk a b ha hb => byBytes1_any o w.heap.size a b W' ?_⟩, (Below.refl _ _).alloc (Nat.le_refl _) _⟩
  exact (hk.block w.heap.size (by simp) (fun q => by have := hX _ q; rw [World.size_alloc] at this; omega)).trans (heap_alloc_new w _)
set_option maxRecDepth 100000 in
set_option maxHeartbeats 400000 in
theorem cthenX {f g : Value} {c d : It → It → Int} {G G2 : (Nat → Prop) → Prop} {D : It → Prop} (w : World) (hf : ∀ X, G X → Cmp w X f c D) (hg : ∀ X, G2 X → Cmp w X g d D) (h0 : G (fun _ => False)) (h02 : G2 (fun _ => False)) :
    Calls Tryz.prog 27 #[f, g] w fun e w' => ∃ v, e = .returned v ∧ (∀ X, G X → G2 X → Free w w' X → Cmp w' X v (Ky.lex c d) D) ∧ Below w.heap.size w w' := by
  have hmf : ∀ (fn : Fn) (first cap : Array Value) (w : World), (Instr.makeFunc fn first cap).run Tryz.prog w = .ok (.func fn first cap) w := fun _ _ _ _ => rfl
  have HF := hide hf
  have HG := hide hg
  obtain ⟨i1, c1, rfl, -, -⟩ := hf _ h0
  obtain ⟨i2, c2, rfl, -, -⟩ := hg _ h02
  clear hf hg h0 h02
  go_enter Tryz.func27, Tryz.ntmps27
  go_wp2_with fail
  go_ret
  have hB : Below w.heap.size w ((w.alloc (.cells #[.func (.func i1) #[] c1] 68)).alloc (.cells #[.func (.func i2) #[] c2] 68)) := ((Below.refl _ _).alloc (Nat.le_refl _) _).alloc (by simp) _
  refine ⟨_, rfl, fun X hGX hGX2 hX => ⟨_, _, rfl, enters_of Tryz.func84 (by kernel_rfl) rfl, fun W' hK a b ha hb => ?_⟩, hB⟩
  have k1 : ((w.alloc (.cells #[.func (.func i1) #[] c1] 68)).alloc (.cells #[.func (.func i2) #[] c2] 68)).heap[w.heap.size]? = some (.cells #[.func (.func i1) #[] c1] 68 (0, 0)) := (Below.heap_alloc _ _ _ (by simp)).trans (heap_alloc_new w _)
  have k2 := heap_alloc_new (w.alloc (.cells #[.func (.func i1) #[] c1] 68)) (.cells #[.func (.func i2) #[] c2] 68)
  rw [World.size_alloc] at k2
  exact cthen1_any (unhide HF X hGX) (unhide HG X hGX2) w.heap.size (w.heap.size + 1) a b W' ((Kp.of hB (X := X)).trans hK (fun _ _ q => q) (fun _ _ q => q))
    (cell_of_row _ _ _ _ _ _ ((hK.block _ (by simp; omega) (fun q => by have := hX _ q; rw [World.size_alloc, World.size_alloc] at this; omega)).trans k1)) (cell_of_row _ _ _ _ _ _ ((hK.block _ (by simp) (fun q => by have := hX _ q; rw [World.size_alloc, World.size_alloc] at this; omega)).trans k2)) ha hb
theorem wrong_fin {w5 Wf : World} {p : Nat} {f : Value} {c : It → It → Int} (HC : Cmp w5 (fun k => k = p) f c DI) (hk : Kp (fun k => k = p) w5 Wf) (hc : Wf.cell? ⟨p, 0, none⟩ = some f) :
    Eqf Wf (fun _ => False) (.func (.func 122) #[] #[.pointer (some ⟨p, 0, none⟩)]) (fun a b => decide (0 < c a b)) DI :=
  ⟨_, _, rfl, enters_of Tryz.func122 (by kernel_rfl) rfl, fun W' hK a b ha hb => wrong2_any HC p a b W' (hk.trans hK (fun _ _ q => q) (fun _ _ q => q.elim)) ((World.cell?_of_block (w := Wf) (hK.block p (cell_lt hc) (fun q => q))).trans hc) ha hb⟩
def wrg (o : Ky.Ord) (u : Bool) (a b : It) : Bool := if u = true then decide (0 ≤ cmpK o a b) else decide (0 < Ky.lex (cmpK o) (cmpY o) a b)
theorem wrg_is (o : Ky.Ord) (h : okO o = true) (u : Bool) (x y : It) (hx : Keyed o x) (hy : Keyed o y) : wrg o u x y = badB o u x.line y.line := by
  cases u
  · unfold wrg badB
    rw [if_neg (by simp), cmpS_is o h x y hx hy, (good_cB o false).tn x.line y.line]
    simp
  · unfold wrg
    rw [if_pos rfl, cmpK_is o h x y hx hy]
    have q := bad_unique o x.line y.line
    cases hb : badB o true x.line y.line
    · have := q.1 hb; simp; omega
    · simp only [decide_eq_true_eq]
      by_cases h0 : cB o true x.line y.line < 0
      · rw [q.2 h0] at hb; simp at hb
      · omega

set_option maxRecDepth 100000 in
set_option maxHeartbeats 400000 in
theorem wrongBy_any (o : Ky.Ord) (u : Bool) (w : World) :
    Calls Tryz.prog 76 #[ov o, .bool u] w fun e w' => ∃ v, e = .returned v ∧ Eqf w' (fun _ => False) v (wrg o u) DI ∧ Below w.heap.size w w' := by
  have hmf : ∀ (fn : Fn) (first cap : Array Value) (w : World), (Instr.makeFunc fn first cap).run Tryz.prog w = .ok (.func fn first cap) w := fun _ _ _ _ => rfl
  have H0 : Hid (Hd w o (w.alloc (.cells #[.bool o.num, .bool o.fold, .bool o.bls, .bool o.rev, .int .i64 o.fr, .int .i64 o.«to», .int .u8 (o.sep.toNat : Int)] 23))) := Hd.new w o
  have C3 : Hid (∀ W, Calls Tryz.prog 26 #[.agg #[.bool o.num, .bool o.fold, .bool o.bls, .bool o.rev, .int .i64 o.fr, .int .i64 o.«to», .int .u8 (o.sep.toNat : Int)]] W fun e w' => ∃ v, e = .returned v ∧ (∀ X, Free W w' X → Cmp w' X v (cmpK o) DI) ∧ Below W.heap.size W w') := fun W => byKeysX o W
  have C4 : Hid (∀ W, Calls Tryz.prog 28 #[.agg #[.bool o.num, .bool o.fold, .bool o.bls, .bool o.rev, .int .i64 o.fr, .int .i64 o.«to», .int .u8 (o.sep.toNat : Int)]] W fun e w' => ∃ v, e = .returned v ∧ (∀ X, Free W w' X → Cmp w' X v (cmpY o) DI) ∧ Below W.heap.size W w') := fun W => byBytesX o W
  have C5 : Hid (∀ W f1 f2 c1 c2 (G G2 : (Nat → Prop) → Prop), (∀ X, G X → Cmp W X f1 c1 DI) → (∀ X, G2 X → Cmp W X f2 c2 DI) → G (fun _ => False) → G2 (fun _ => False) → Calls Tryz.prog 27 #[f1, f2] W fun e w' => ∃ v, e = .returned v ∧ (∀ X, G X → G2 X → Free W w' X → Cmp w' X v (Ky.lex c1 c2) DI) ∧ Below W.heap.size W w') := fun W f1 f2 c1 c2 G G2 h1 h2 h3 h4 => cthenX W h1 h2 h3 h4
  unfold ov
  cases u
  · go_enter Tryz.func76, Tryz.ntmps76
    go_wp2_with fail
    have hS0 : (w.alloc (.cells #[.bool o.num, .bool o.fold, .bool o.bls, .bool o.rev, .int .i64 o.fr, .int .i64 o.«to», .int .u8 (o.sep.toNat : Int)] 23)).drew.cell? ⟨w.heap.size, 0, none⟩ = some (.bool o.num) ∧ (w.alloc (.cells #[.bool o.num, .bool o.fold, .bool o.bls, .bool o.rev, .int .i64 o.fr, .int .i64 o.«to», .int .u8 (o.sep.toNat : Int)] 23)).drew.cell? ⟨w.heap.size, 1, none⟩ = some (.bool o.fold) ∧ (w.alloc (.cells #[.bool o.num, .bool o.fold, .bool o.bls, .bool o.rev, .int .i64 o.fr, .int .i64 o.«to», .int .u8 (o.sep.toNat : Int)] 23)).drew.cell? ⟨w.heap.size, 2, none⟩ = some (.bool o.bls) ∧ (w.alloc (.cells #[.bool o.num, .bool o.fold, .bool o.bls, .bool o.rev, .int .i64 o.fr, .int .i64 o.«to», .int .u8 (o.sep.toNat : Int)] 23)).drew.cell? ⟨w.heap.size, 3, none⟩ = some (.bool o.rev) ∧ (w.alloc (.cells #[.bool o.num, .bool o.fold, .bool o.bls, .bool o.rev, .int .i64 o.fr, .int .i64 o.«to», .int .u8 (o.sep.toNat : Int)] 23)).drew.cell? ⟨w.heap.size, 4, none⟩ = some (.int .i64 o.fr) ∧ (w.alloc (.cells #[.bool o.num, .bool o.fold, .bool o.bls, .bool o.rev, .int .i64 o.fr, .int .i64 o.«to», .int .u8 (o.sep.toNat : Int)] 23)).drew.cell? ⟨w.heap.size, 5, none⟩ = some (.int .i64 o.«to») ∧ (w.alloc (.cells #[.bool o.num, .bool o.fold, .bool o.bls, .bool o.rev, .int .i64 o.fr, .int .i64 o.«to», .int .u8 (o.sep.toNat : Int)] 23)).drew.cell? ⟨w.heap.size, 6, none⟩ = some (.int .u8 (o.sep.toNat : Int)) ∧ Hid (Hd w o (w.alloc (.cells #[.bool o.num, .bool o.fold, .bool o.bls, .bool o.rev, .int .i64 o.fr, .int .i64 o.«to», .int .u8 (o.sep.toNat : Int)] 23)).drew) := H7.of (unhide H0).drew
    have hal : Hid (∀ W (x : Obj), H7 w o W → H7 w o (W.alloc x)) := fun W x h => H7.of (h.held.step ((Below.refl _ _).alloc (Nat.le_refl _) _))
    go_region_held3 (fun w' => w'.cell? ⟨w.heap.size, 0, none⟩ = some (.bool o.num) ∧ w'.cell? ⟨w.heap.size, 1, none⟩ = some (.bool o.fold) ∧ w'.cell? ⟨w.heap.size, 2, none⟩ = some (.bool o.bls) ∧ w'.cell? ⟨w.heap.size, 3, none⟩ = some (.bool o.rev) ∧ w'.cell? ⟨w.heap.size, 4, none⟩ = some (.int .i64 o.fr) ∧ w'.cell? ⟨w.heap.size, 5, none⟩ = some (.int .i64 o.«to») ∧ w'.cell? ⟨w.heap.size, 6, none⟩ = some (.int .u8 (o.sep.toNat : Int)) ∧ Hid (Hd w o w')) (first | assumption | exact unhide hal _ _ (by assumption) | exact h7_set (by assumption) (by omega) | go_keep)
      (first
        | ((with_reducible refine (unhide C3 _).mono ?_); rintro e w3 ⟨f1, rfl, hC1, b3⟩; have hS3 : w3.cell? ⟨w.heap.size, 0, none⟩ = some (.bool o.num) ∧ w3.cell? ⟨w.heap.size, 1, none⟩ = some (.bool o.fold) ∧ w3.cell? ⟨w.heap.size, 2, none⟩ = some (.bool o.bls) ∧ w3.cell? ⟨w.heap.size, 3, none⟩ = some (.bool o.rev) ∧ w3.cell? ⟨w.heap.size, 4, none⟩ = some (.int .i64 o.fr) ∧ w3.cell? ⟨w.heap.size, 5, none⟩ = some (.int .i64 o.«to») ∧ w3.cell? ⟨w.heap.size, 6, none⟩ = some (.int .u8 (o.sep.toNat : Int)) ∧ Hid (Hd w o w3) := H7.of (Hd.step (H7.held (by assumption)) b3); have HC1 := hide hC1; (try (have tbx3a := bx_new b3; have bx3a := tbx3a.1; have fx3a := tbx3a.2.1; have zx3a := tbx3a.2.2; clear tbx3a; simp only [World.size_alloc] at bx3a fx3a zx3a)); (try (have tbx3a := bx_newd b3; have bx3a := tbx3a.1; have fx3a := tbx3a.2.1; have zx3a := tbx3a.2.2; clear tbx3a; simp only [World.size_alloc] at bx3a fx3a zx3a)); have zz3 : w.heap.size < w3.heap.size := (H7.held hS3).1.lt; clear hC1 b3)
        | ((with_reducible refine (unhide C4 _).mono ?_); rintro e w4 ⟨f2, rfl, hC2, b4⟩; have hS4 : w4.cell? ⟨w.heap.size, 0, none⟩ = some (.bool o.num) ∧ w4.cell? ⟨w.heap.size, 1, none⟩ = some (.bool o.fold) ∧ w4.cell? ⟨w.heap.size, 2, none⟩ = some (.bool o.bls) ∧ w4.cell? ⟨w.heap.size, 3, none⟩ = some (.bool o.rev) ∧ w4.cell? ⟨w.heap.size, 4, none⟩ = some (.int .i64 o.fr) ∧ w4.cell? ⟨w.heap.size, 5, none⟩ = some (.int .i64 o.«to») ∧ w4.cell? ⟨w.heap.size, 6, none⟩ = some (.int .u8 (o.sep.toNat : Int)) ∧ Hid (Hd w o w4) := H7.of (Hd.step (H7.held (by assumption)) b4); have KP4 : ∀ X, Kp X w3 w4 := (by first | exact fun X => Kp.of b4 | exact fun X => ((Kp.refl X w3).alloc _).step b4); have z34 := (KP4 (fun _ => False)).size; have HC12 := hide (fun X h => (unhide HC1 X h).keep (KP4 X)); clear KP4; have HC2 := hide hC2; (try (have tbx4a := bx_step bx3a fx3a zx3a b4; have bx4a := tbx4a.1; have fx4a := tbx4a.2.1; have zx4a := tbx4a.2.2; clear tbx4a)); (try (have tbx4b := bx_new b4; have bx4b := tbx4b.1; have fx4b := tbx4b.2.1; have zx4b := tbx4b.2.2; clear tbx4b)); have zz4 : w.heap.size < w4.heap.size := (H7.held hS4).1.lt; clear hC2 b4)
        | ((with_reducible refine (unhide C5 _ f1 f2 _ _ _ _ (unhide HC12) (unhide HC2) (free0 _ _) (free0 _ _)).mono ?_); rintro e w5 ⟨f3, rfl, hC3, b5⟩; have hS5 : w5.cell? ⟨w.heap.size, 0, none⟩ = some (.bool o.num) ∧ w5.cell? ⟨w.heap.size, 1, none⟩ = some (.bool o.fold) ∧ w5.cell? ⟨w.heap.size, 2, none⟩ = some (.bool o.bls) ∧ w5.cell? ⟨w.heap.size, 3, none⟩ = some (.bool o.rev) ∧ w5.cell? ⟨w.heap.size, 4, none⟩ = some (.int .i64 o.fr) ∧ w5.cell? ⟨w.heap.size, 5, none⟩ = some (.int .i64 o.«to») ∧ w5.cell? ⟨w.heap.size, 6, none⟩ = some (.int .u8 (o.sep.toNat : Int)) ∧ Hid (Hd w o w5) := H7.of (Hd.step (H7.held (by assumption)) b5); have HC3 := hide hC3; have z45 : w4.heap.size ≤ w5.heap.size := (by first | exact (Kp.of (X := fun _ => False) b5).size | exact (((Kp.refl (fun _ => False) w4).alloc _).step b5).size); obtain ⟨id3, cp3, rfl, -, -⟩ := hC3 (fun _ => False) (fun _ q => q.elim) (fun _ q => q.elim) (fun _ q => q.elim); (try (have tbx5a := bx_step bx4a fx4a zx4a b5; have bx5a := tbx5a.1; have fx5a := tbx5a.2.1; have zx5a := tbx5a.2.2; clear tbx5a)); (try (have tbx5b := bx_step bx4b fx4b zx4b b5; have bx5b := tbx5b.1; have fx5b := tbx5b.2.1; have zx5b := tbx5b.2.2; clear tbx5b)); (try (have tbx5c := bx_new b5; have bx5c := tbx5c.1; have fx5c := tbx5c.2.1; have zx5c := tbx5c.2.2; clear tbx5c)); have zz5 : w.heap.size < w5.heap.size := (H7.held hS5).1.lt; clear b5)
        | ((with_reducible refine (unhide C5 _ f1 f2 _ _ _ _ (fun X h => (unhide HC12 X h).keep ((Kp.refl X w4).alloc _)) (fun X h => (unhide HC2 X h).keep ((Kp.refl X w4).alloc _)) (free0 _ _) (free0 _ _)).mono ?_); rintro e w5 ⟨f3, rfl, hC3, b5⟩; have hS5 : w5.cell? ⟨w.heap.size, 0, none⟩ = some (.bool o.num) ∧ w5.cell? ⟨w.heap.size, 1, none⟩ = some (.bool o.fold) ∧ w5.cell? ⟨w.heap.size, 2, none⟩ = some (.bool o.bls) ∧ w5.cell? ⟨w.heap.size, 3, none⟩ = some (.bool o.rev) ∧ w5.cell? ⟨w.heap.size, 4, none⟩ = some (.int .i64 o.fr) ∧ w5.cell? ⟨w.heap.size, 5, none⟩ = some (.int .i64 o.«to») ∧ w5.cell? ⟨w.heap.size, 6, none⟩ = some (.int .u8 (o.sep.toNat : Int)) ∧ Hid (Hd w o w5) := H7.of (Hd.step (H7.held (by assumption)) b5); have HC3 := hide hC3; have z45 : w4.heap.size ≤ w5.heap.size := (by first | exact (Kp.of (X := fun _ => False) b5).size | exact (((Kp.refl (fun _ => False) w4).alloc _).step b5).size); obtain ⟨id3, cp3, rfl, -, -⟩ := hC3 (fun _ => False) (fun _ q => q.elim) (fun _ q => q.elim) (fun _ q => q.elim); (try (have tbx5a := bx_step bx4a fx4a zx4a b5; have bx5a := tbx5a.1; have fx5a := tbx5a.2.1; have zx5a := tbx5a.2.2; clear tbx5a)); (try (have tbx5b := bx_step bx4b fx4b zx4b b5; have bx5b := tbx5b.1; have fx5b := tbx5b.2.1; have zx5b := tbx5b.2.2; clear tbx5b)); (try (have tbx5c := bx_new b5; have bx5c := tbx5c.1; have fx5c := tbx5c.2.1; have zx5c := tbx5c.2.2; clear tbx5c)); have zz5 : w.heap.size < w5.heap.size := (H7.held hS5).1.lt; clear b5)
        | fail)
    · go_wp2_with fail
      go_ret
      refine ⟨_, rfl, wrong_fin (p := w5.heap.size) (unhide HC3 _ (fun i e => .inr (by omega)) (fun i e => .inr (by omega)) (fun i e => .inr (by omega))) ((Kp.refl _ _).alloc _) (cell_of_row _ _ 0 _ _ _ (heap_alloc_new w5 _)), (H7.held hS5).2.alloc (H7.held hS5).2.size _⟩
    · go_wp2_with fail
      go_ret
      refine ⟨_, rfl, wrong_fin (p := w4.heap.size) (unhide HC3 _ (fun i e => .inr (by omega)) (fun i e => .inr (by omega)) (fun i e => .inl (by rw [e]; simp))) ((Kp.refl _ _).set1 0 _) (cell_set bx5c), (H7.held hS5).2.setCell (p := ⟨w4.heap.size, 0, none⟩) (Nat.le_of_lt zz4) _⟩
    · go_wp2_with fail
      go_ret
      refine ⟨_, rfl, wrong_fin (p := w3.heap.size) (unhide HC3 _ (fun i e => .inr (by omega)) (fun i e => .inl (by rw [e]; simp)) (fun i e => .inl (by omega))) ((Kp.refl _ _).set1 0 _) (cell_set bx5b), (H7.held hS5).2.setCell (p := ⟨w3.heap.size, 0, none⟩) (Nat.le_of_lt zz3) _⟩
    · go_wp2_with fail
      go_ret
      refine ⟨_, rfl, wrong_fin (p := w.heap.size + 1) (unhide HC3 _ (fun i e => .inl (by rw [e]; simp)) (fun i e => .inl (by omega)) (fun i e => .inl (by omega))) ((Kp.refl _ _).set1 0 _) (cell_set bx5a), (H7.held hS5).2.setCell (p := ⟨w.heap.size + 1, 0, none⟩) (by simp) _⟩
  · go_enter Tryz.func76, Tryz.ntmps76
    go_wp2_with fail
    refine (unhide C3 _).mono ?_
    rintro e w1 ⟨f1, rfl, hC1, b1⟩
    have H1 := hide ((unhide H0).step b1)
    have hC1 := hC1 (fun _ => False) (fun _ q => q.elim)
    have HC1 := hide hC1
    obtain ⟨id, cp, rfl, -, -⟩ := hC1
    clear b1 H0 C3 C4 C5
    go_wp2_with fail
    go_ret
    have hB : Below w1.heap.size w1 (w1.alloc (.cells #[.func (.func id) #[] cp] 68)) := (Below.refl _ _).alloc (Nat.le_refl _) _
    refine ⟨_, rfl, ⟨_, _, rfl, enters_of Tryz.func121 (by kernel_rfl) rfl, fun W' hK a b ha hb => ?_⟩, (unhide H1).2.trans (hB.mono (unhide H1).2.size)⟩
    exact wrong1_any (unhide HC1) w1.heap.size a b W' ((Kp.of hB (X := fun _ => False)).trans hK (fun _ _ q => q) (fun _ _ q => q)) (cell_of_row _ _ _ _ _ _ ((hK.block _ (by simp; done) (fun q => q)).trans (heap_alloc_new w1 _))) ha hb
end Go.Proofs.YtmpppdbomdepoaaGreatDoor.So
