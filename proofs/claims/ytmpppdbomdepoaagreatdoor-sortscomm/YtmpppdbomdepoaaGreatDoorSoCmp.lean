/- How items are compared: by keys, by bytes, by place, one behind the other. -/
import Derived.Test.YtmpppdbomdepoaaGreatDoorSoIt
import Derived.Test.YtmpppdbomdepoaaGreatDoorKyComp
import Derived.Test.YtmpppdbomdepoaaGreatDoorKyRow
namespace Go.Proofs.YtmpppdbomdepoaaGreatDoor.So
open Go.RowKit Go.Shelf Ky

attribute [local go_sem] Oper.semAt_some

/-- the order of keys that were taken already -/
def o0 (o : Ky.Ord) : Ky.Ord := { o with fr := 0, to := 0, sep := 0 }
def cmpK (o : Ky.Ord) (a b : It) : Int := Ky.compare (o0 o) a.key.data.toList b.key.data.toList
def cmpY (o : Ky.Ord) (a b : It) : Int := if o.rev = true then cmpL b.line.data.toList a.line.data.toList else cmpL a.line.data.toList b.line.data.toList
def cmpP (a b : It) : Int := Ky.cmpI a.place b.place
def DI (x : It) : Prop := x.line.size ≤ 1073741824 ∧ x.key.size ≤ 1073741824

set_option maxRecDepth 100000 in
set_option maxHeartbeats 400000 in
theorem byKeys1_any (o : Ky.Ord) (k : Nat) (a b : It) (w : World) (hk : OR w k (o0 o)) (ha : DI a) (hb : DI b) :
    Calls Tryz.prog 82 #[ia a, ia b, .pointer (some ⟨k, 0, none⟩)] w fun e w' => e = .returned (.int .i64 (cmpK o a b)) ∧ Below w.heap.size w w' := by
  have C := hide (fun W => comp_any (o0 o) a.key b.key W ha.2 hb.2)
  unfold ov at C
  unfold cmpK
  generalize Ky.compare (o0 o) a.key.data.toList b.key.data.toList = r at *
  obtain ⟨q0, q1, q2, q3, q4, q5, q6⟩ := hk.cells
  have hl := hk.lt
  generalize o0 o = p at *
  obtain ⟨al, ak, ap⟩ := a
  obtain ⟨bl, bk, bp⟩ := b
  unfold ia
  simp only at C ⊢
  clear hk ha hb
  go_enter Tryz.func82, Tryz.ntmps82
  go_wp2_with fail
  refine (unhide C _).mono ?_
  rintro e w1 ⟨rfl, b1⟩
  have hB : Hid (Below w.heap.size w w1) := by
    show Below _ _ _
    exact (((Below.refl _ w).alloc (Nat.le_refl _) _).alloc (by simp) _).trans (b1.mono (by simp; omega))
  clear b1
  go_wp2_with fail
  go_ret
  exact ⟨rfl, unhide hB⟩

set_option maxRecDepth 100000 in
set_option maxHeartbeats 400000 in
theorem byBytes1_any (o : Ky.Ord) (k : Nat) (a b : It) (w : World) (hk : OR w k o) :
    Calls Tryz.prog 85 #[ia a, ia b, .pointer (some ⟨k, 0, none⟩)] w fun e w' => e = .returned (.int .i64 (cmpY o a b)) ∧ Below w.heap.size w w' := by
  have C1 := hide (fun W => compare_any a.line b.line W)
  have C2 := hide (fun W => compare_any b.line a.line W)
  obtain ⟨-, -, -, q3, -, -, -⟩ := hk.cells
  have hl := hk.lt
  unfold cmpY
  generalize cmpL a.line.data.toList b.line.data.toList = r1 at *
  generalize cmpL b.line.data.toList a.line.data.toList = r2 at *
  obtain ⟨al, ak, ap⟩ := a
  obtain ⟨bl, bk, bp⟩ := b
  unfold ia
  simp only at C1 C2 ⊢
  clear hk
  cases hr : o.rev
  · rw [hr] at q3
    rw [if_neg (by simp)]
    clear hr C2
    go_enter Tryz.func85, Tryz.ntmps85
    go_wp2_with fail
    refine (unhide C1 _).mono ?_
    rintro e w1 ⟨rfl, rfl⟩
    go_wp2_with fail
    go_ret
    refine ⟨rfl, ?_⟩
    repeat (first | exact Below.refl _ _ | apply Below.setCell | apply Below.alloc | simp)
  · rw [hr] at q3
    rw [if_pos rfl]
    clear hr C1
    go_enter Tryz.func85, Tryz.ntmps85
    go_wp2_with fail
    refine (unhide C2 _).mono ?_
    rintro e w1 ⟨rfl, rfl⟩
    go_wp2_with fail
    go_ret
    refine ⟨rfl, ?_⟩
    repeat (first | exact Below.refl _ _ | apply Below.setCell | apply Below.alloc | simp)

set_option maxRecDepth 100000 in
set_option maxHeartbeats 400000 in
theorem byPlace_any (a b : It) (w : World) :
    Calls Tryz.prog 74 #[ia a, ia b] w fun e w' => e = .returned (.int .i64 (cmpP a b)) ∧ Below w.heap.size w w' := by
  have C1 : Hid (∀ W, Calls Tryz.prog 119 #[.int .i64 a.place, .int .i64 b.place] W fun e w' => e = .returned (.int .i64 (cmpP a b)) ∧ w' = W) := fun w => by unfold cmpP; rw [← cmpI_eq]; exact Tryz.cmp_Compare_int _ _ w
  generalize cmpP a b = r at *
  obtain ⟨al, ak, ap⟩ := a
  obtain ⟨bl, bk, bp⟩ := b
  unfold ia
  simp only at C1 ⊢
  go_enter Tryz.func74, Tryz.ntmps74
  go_wp2_with fail
  refine (unhide C1 _).mono ?_
  rintro e w1 ⟨rfl, rfl⟩
  go_wp2_with fail
  go_ret
  refine ⟨rfl, ?_⟩
  repeat (first | exact Below.refl _ _ | apply Below.setCell | apply Below.alloc | simp)

theorem Cmp.keep {W W1 : World} {X : Nat → Prop} {f : Value} {c : It → It → Int} {D : It → Prop} (h : Cmp W X f c D) (hk : Kp X W W1) : Cmp W1 X f c D := by
  obtain ⟨id, cap, h1, h2, h3⟩ := h
  exact ⟨id, cap, h1, h2, fun W' k => h3 W' (hk.trans k (fun _ _ q => q) (fun _ _ q => q))⟩
theorem Kp.of {X : Nat → Prop} {w w' : World} (b : Below w.heap.size w w') : Kp X w w' := (Kp.refl X w).step b

set_option maxRecDepth 100000 in
set_option maxHeartbeats 400000 in
theorem byKeys_any (o : Ky.Ord) (X : Nat → Prop) (w : World) (hX : ∀ i, X i → i < w.heap.size) :
    Calls Tryz.prog 26 #[ov o] w fun e w' => ∃ v, e = .returned v ∧ Cmp w' X v (cmpK o) DI ∧ Below w.heap.size w w' := by
  have hmf : ∀ (fn : Fn) (first cap : Array Value) (w : World), (Instr.makeFunc fn first cap).run Tryz.prog w = .ok (.func fn first cap) w := fun _ _ _ _ => rfl
  have HX := hide hX
  clear hX
  unfold ov
  go_enter Tryz.func26, Tryz.ntmps26
  go_wp2_with fail
  go_ret
  refine ⟨_, rfl, ⟨_, _, rfl, enters_of Tryz.func82 (by kernel_rfl) rfl, fun W' hk a b ha hb => byKeys1_any o w.heap.size a b W' ?_ ha hb⟩, (Below.refl _ _).alloc (Nat.le_refl _) _⟩
  exact (hk.block w.heap.size (by simp) (fun q => Nat.lt_irrefl _ (unhide HX _ q))).trans (heap_alloc_new w _)

set_option maxRecDepth 100000 in
set_option maxHeartbeats 400000 in
theorem byBytes_any (o : Ky.Ord) (X : Nat → Prop) (w : World) (hX : ∀ i, X i → i < w.heap.size) :
    Calls Tryz.prog 28 #[ov o] w fun e w' => ∃ v, e = .returned v ∧ Cmp w' X v (cmpY o) DI ∧ Below w.heap.size w w' := by
  have hmf : ∀ (fn : Fn) (first cap : Array Value) (w : World), (Instr.makeFunc fn first cap).run Tryz.prog w = .ok (.func fn first cap) w := fun _ _ _ _ => rfl
  have HX := hide hX
  clear hX
  unfold ov
  go_enter Tryz.func28, Tryz.ntmps28
  go_wp2_with fail
  go_ret
  refine ⟨_, rfl, ⟨_, _, rfl, enters_of Tryz.func85 (by kernel_rfl) rfl, fun W' hk a b ha hb => byBytes1_any o w.heap.size a b W' ?_⟩, (Below.refl _ _).alloc (Nat.le_refl _) _⟩
  exact (hk.block w.heap.size (by simp) (fun q => Nat.lt_irrefl _ (unhide HX _ q))).trans (heap_alloc_new w _)

theorem byPlace_cmp (X : Nat → Prop) (D : It → Prop) (w : World) : Cmp w X (.func (.func 74) #[] #[]) cmpP D :=
  ⟨_, _, rfl, enters_of Tryz.func74 (by kernel_rfl) rfl, fun W' _ a b _ _ => byPlace_any a b W'⟩

set_option maxRecDepth 100000 in
set_option maxHeartbeats 800000 in
theorem cthen1_any {W0 : World} {X : Nat → Prop} {f g : Value} {c d : It → It → Int} {D : It → Prop} (hf : Cmp W0 X f c D) (hg : Cmp W0 X g d D) (x y : Nat) (a b : It) (w : World) (hB : Kp X W0 w) (hx : w.cell? ⟨x, 0, none⟩ = some f) (hy : w.cell? ⟨y, 0, none⟩ = some g) (ha : D a) (hb : D b) :
    Calls Tryz.prog 84 #[ia a, ia b, .pointer (some ⟨x, 0, none⟩), .pointer (some ⟨y, 0, none⟩)] w fun e w' => e = .returned (.int .i64 (Ky.lex c d a b)) ∧ Below w.heap.size w w' := by
  obtain ⟨i1, c1, rfl, e1, k1⟩ := hf
  obtain ⟨i2, c2, rfl, e2, k2⟩ := hg
  have hxl : x < w.heap.size := cell_lt hx
  have hyl : y < w.heap.size := cell_lt hy
  have K1 : Hid (∀ W, Below w.heap.size w W → Calls Tryz.prog i1 (#[ia a, ia b] ++ c1) W fun e w' => e = .returned (.int .i64 (c a b)) ∧ Below W.heap.size W w') := fun W h => k1 W (hB.trans (Kp.of h (X := X)) (fun _ _ q => q) (fun _ _ q => q)) a b ha hb
  have K2 : Hid (∀ W, Below w.heap.size w W → Calls Tryz.prog i2 (#[ia a, ia b] ++ c2) W fun e w' => e = .returned (.int .i64 (d a b)) ∧ Below W.heap.size W w') := fun W h => k2 W (hB.trans (Kp.of h (X := X)) (fun _ _ q => q) (fun _ _ q => q)) a b ha hb
  have hL : Hid (Ky.lex c d a b = if c a b = 0 then d a b else c a b) := rfl
  generalize Ky.lex c d a b = R at *
  clear k1 k2 ha hb hB
  generalize c a b = r1 at *
  generalize d a b = r2 at *
  obtain ⟨al, ak, ap⟩ := a
  obtain ⟨bl, bk, bp⟩ := b
  unfold ia at *
  simp only at K1 K2 ⊢
  have hB0 : Hid (∀ o1 o2, Below w.heap.size w ((w.alloc o1).alloc o2)) := fun o1 o2 => ((Below.refl _ w).alloc (Nat.le_refl _) _).alloc (by simp) _
  go_enter Tryz.func84, Tryz.ntmps84
  go_wp2_with fail
  refine (unhide K1 _ (unhide hB0 _ _)).mono ?_
  rintro e w1 ⟨rfl, b1⟩
  have z1 : w.heap.size + 2 ≤ w1.heap.size := by have := b1.size; simp at this; omega
  have hA := (b1.block w.heap.size (by simp; omega)).trans ((Below.heap_alloc _ _ _ (by simp)).trans (heap_alloc_new w (.cells #[.string al, .string ak, .int .i64 ap] 66)))
  have hN := heap_alloc_new (w.alloc (.cells #[.string al, .string ak, .int .i64 ap] 66)) (.cells #[.string bl, .string bk, .int .i64 bp] 66)
  rw [World.size_alloc] at hN
  have hA2 := (b1.block (w.heap.size + 1) (by simp)).trans hN
  clear hN
  have q0 : w1.cell? ⟨w.heap.size, 0, none⟩ = some (.string al) := cell_of_row _ _ 0 _ _ _ hA
  have q1 : w1.cell? ⟨w.heap.size, 1, none⟩ = some (.string ak) := cell_of_row _ _ 1 _ _ _ hA
  have q2 : w1.cell? ⟨w.heap.size, 2, none⟩ = some (.int .i64 ap) := cell_of_row _ _ 2 _ _ _ hA
  have p0 : w1.cell? ⟨w.heap.size + 1, 0, none⟩ = some (.string bl) := cell_of_row _ _ 0 _ _ _ hA2
  have p1 : w1.cell? ⟨w.heap.size + 1, 1, none⟩ = some (.string bk) := cell_of_row _ _ 1 _ _ _ hA2
  have p2 : w1.cell? ⟨w.heap.size + 1, 2, none⟩ = some (.int .i64 bp) := cell_of_row _ _ 2 _ _ _ hA2
  have hB1 : Below w.heap.size w w1 := (unhide hB0 _ _).trans (b1.mono (by simp; omega))
  have hy1 : w1.cell? ⟨y, 0, none⟩ = some (.func (.func i2) #[] c2) := (hB1.cell (p := ⟨y, 0, none⟩) hyl).trans hy
  have HB1 := hide hB1
  clear b1 hA hA2 hB1 hB0 K1 hx hy e1
  by_cases h0 : r1 = 0
  · have hR : Hid (R = r2) := by have := unhide hL; rwa [if_pos h0] at this
    subst h0
    clear hL
    go_wp2_with fail
    refine (unhide K2 _ (unhide HB1)).mono ?_
    rintro e w2 ⟨rfl, b2⟩
    have HB2 := hide ((unhide HB1).trans (b2.mono (unhide HB1).size))
    clear b2 HB1 K2
    go_wp2_with fail
    go_ret
    exact ⟨by rw [unhide hR]; rfl, unhide HB2⟩
  · have hR : Hid (R = r1) := by have := unhide hL; rwa [if_neg h0] at this
    clear hL
    go_wp2_with fail
    go_ret
    exact ⟨by rw [unhide hR]; rfl, unhide HB1⟩

set_option maxRecDepth 100000 in
set_option maxHeartbeats 400000 in
theorem cthen_any {f g : Value} {c d : It → It → Int} {X : Nat → Prop} {D : It → Prop} (w : World) (hX : ∀ i, X i → i < w.heap.size) (hf : Cmp w X f c D) (hg : Cmp w X g d D) :
    Calls Tryz.prog 27 #[f, g] w fun e w' => ∃ v, e = .returned v ∧ Cmp w' X v (Ky.lex c d) D ∧ Below w.heap.size w w' := by
  have hmf : ∀ (fn : Fn) (first cap : Array Value) (w : World), (Instr.makeFunc fn first cap).run Tryz.prog w = .ok (.func fn first cap) w := fun _ _ _ _ => rfl
  have HF := hide hf
  have HG := hide hg
  have HX := hide hX
  obtain ⟨i1, c1, rfl, -, -⟩ := hf
  obtain ⟨i2, c2, rfl, -, -⟩ := hg
  clear hX
  go_enter Tryz.func27, Tryz.ntmps27
  go_wp2_with fail
  go_ret
  have hB : Below w.heap.size w ((w.alloc (.cells #[.func (.func i1) #[] c1] 68)).alloc (.cells #[.func (.func i2) #[] c2] 68)) := ((Below.refl _ _).alloc (Nat.le_refl _) _).alloc (by simp) _
  refine ⟨_, rfl, ⟨_, _, rfl, enters_of Tryz.func84 (by kernel_rfl) rfl, fun W' hK a b ha hb => ?_⟩, hB⟩
  have k1 : ((w.alloc (.cells #[.func (.func i1) #[] c1] 68)).alloc (.cells #[.func (.func i2) #[] c2] 68)).heap[w.heap.size]? = some (.cells #[.func (.func i1) #[] c1] 68 (0, 0)) := (Below.heap_alloc _ _ _ (by simp)).trans (heap_alloc_new w _)
  have k2 := heap_alloc_new (w.alloc (.cells #[.func (.func i1) #[] c1] 68)) (.cells #[.func (.func i2) #[] c2] 68)
  rw [World.size_alloc] at k2
  exact cthen1_any (unhide HF) (unhide HG) w.heap.size (w.heap.size + 1) a b W' ((Kp.of hB (X := X)).trans hK (fun _ _ q => q) (fun _ _ q => q))
    (cell_of_row _ _ _ _ _ _ ((hK.block _ (by simp; omega) (fun q => Nat.lt_irrefl _ (unhide HX _ q))).trans k1)) (cell_of_row _ _ _ _ _ _ ((hK.block _ (by simp) (fun q => by have := unhide HX _ q; omega)).trans k2)) ha hb
end Go.Proofs.YtmpppdbomdepoaaGreatDoor.So
