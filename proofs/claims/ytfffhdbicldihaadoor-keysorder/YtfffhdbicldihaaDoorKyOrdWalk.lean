/- KeysOrder returns true, whatever the order and the lines. -/
import Derived.Test.YtfffhdbicldihaaDoorKyAlive
namespace Go.Proofs.YtfffhdbicldihaaDoor.Ky
open Go.RowKit Go.Shelf

attribute [local go_sem] Oper.semAt_some

/-- how three lines may compare -/
def Tri (x y z : Int) : Prop :=
  (x = -1 ∧ y = -1 ∧ z = -1) ∨ (x = -1 ∧ y = 0 ∧ z = -1) ∨ (x = -1 ∧ y = 1 ∧ z = -1) ∨ (x = -1 ∧ y = 1 ∧ z = 0) ∨ (x = -1 ∧ y = 1 ∧ z = 1) ∨
  (x = 0 ∧ y = -1 ∧ z = -1) ∨ (x = 0 ∧ y = 0 ∧ z = 0) ∨ (x = 0 ∧ y = 1 ∧ z = 1) ∨
  (x = 1 ∧ y = 1 ∧ z = 1) ∨ (x = 1 ∧ y = 0 ∧ z = 1) ∨ (x = 1 ∧ y = -1 ∧ z = -1) ∨ (x = 1 ∧ y = -1 ∧ z = 0) ∨ (x = 1 ∧ y = -1 ∧ z = 1)
theorem tri {α : Type} {c : α → α → Int} (h : Good c) (a b d : α) : Tri (c a b) (c b d) (c a d) := by
  have r1 := h.rg a b
  have r2 := h.rg b d
  have r3 := h.rg a d
  have t1 := h.tr a b d
  have t2 := h.tr d b a
  have n1 := h.tn a b
  have n2 := h.tn b d
  have n3 := h.tn a d
  have l1 := @Good.less _ _ h a b d
  have l2 := @Good.less _ _ h d b a
  have s1 : c a b = 0 → c a d = c b d := fun e => h.same e d
  have s2 : c b d = 0 → c a d = c a b := fun e => by have := h.same' e a; omega
  rw [n1, n2, n3] at t2 l2
  clear n1 n2 n3
  generalize c a b = x at *
  generalize c b d = y at *
  generalize c a d = z at *
  unfold Tri
  rcases r1 with rfl | rfl | rfl <;> rcases r2 with rfl | rfl | rfl <;> rcases r3 with rfl | rfl | rfl <;> first | decide | (exfalso; omega)

theorem ten {W : World} {k : Nat} (o : Ord) {a b c : ByteArray} (h1 : W.heap[k]? = some (.cells #[.bool o.num, .bool o.fold, .bool o.bls, .bool o.rev, .int .i64 o.fr, .int .i64 o.to, .int .u8 (o.sep.toNat : Int)] 23 (0, 0))) (h2 : W.heap[k + 1]? = some (.cells #[.string a, .string b, .string c] 32 (0, 0))) :
    W.cell? ⟨k, 0, none⟩ = some (.bool o.num) ∧ W.cell? ⟨k, 1, none⟩ = some (.bool o.fold) ∧ W.cell? ⟨k, 2, none⟩ = some (.bool o.bls) ∧ W.cell? ⟨k, 3, none⟩ = some (.bool o.rev) ∧ W.cell? ⟨k, 4, none⟩ = some (.int .i64 o.fr) ∧ W.cell? ⟨k, 5, none⟩ = some (.int .i64 o.to) ∧ W.cell? ⟨k, 6, none⟩ = some (.int .u8 (o.sep.toNat : Int)) ∧ W.cell? ⟨k + 1, 0, none⟩ = some (.string a) ∧ W.cell? ⟨k + 1, 1, none⟩ = some (.string b) ∧ W.cell? ⟨k + 1, 2, none⟩ = some (.string c) :=
  ⟨cell_of_row _ _ 0 _ _ _ h1, cell_of_row _ _ 1 _ _ _ h1, cell_of_row _ _ 2 _ _ _ h1, cell_of_row _ _ 3 _ _ _ h1, cell_of_row _ _ 4 _ _ _ h1, cell_of_row _ _ 5 _ _ _ h1, cell_of_row _ _ 6 _ _ _ h1, cell_of_row _ _ 0 _ _ _ h2, cell_of_row _ _ 1 _ _ _ h2, cell_of_row _ _ 2 _ _ _ h2⟩
set_option maxRecDepth 100000 in
set_option maxHeartbeats 2000000 in
theorem keysOrder_any (o : Ord) (a b c : ByteArray) (w : World) (ha : a.size ≤ 140737488351232) (hb : b.size ≤ 140737488351232) (hc : c.size ≤ 140737488351232) :
    Calls Tryd.prog 6 #[ov o, .agg #[.string a, .string b, .string c]] w fun e w' => e = .returned (.bool true) ∧ Below w.heap.size w w' := by
  have AL : Hid (∀ W, Calls Tryd.prog 15 #[] W fun e w' => e = .returned (.bool true) ∧ Below W.heap.size W w') := alive_any
  unfold ov
  by_cases hbig : (a.size : Int) + (b.size : Int) + (c.size : Int) > 50000
  · have p0 : Hid (((w.alloc (.cells #[.bool o.num, .bool o.fold, .bool o.bls, .bool o.rev, .int .i64 o.fr, .int .i64 o.to, .int .u8 (o.sep.toNat : Int)] 23)).alloc (.cells #[.string a, .string b, .string c] 32)).heap[w.heap.size]? = some (.cells #[.bool o.num, .bool o.fold, .bool o.bls, .bool o.rev, .int .i64 o.fr, .int .i64 o.to, .int .u8 (o.sep.toNat : Int)] 23 (0, 0))) := (Below.heap_alloc _ _ _ (by simp)).trans (heap_alloc_new w _)
    have q0 : Hid (((w.alloc (.cells #[.bool o.num, .bool o.fold, .bool o.bls, .bool o.rev, .int .i64 o.fr, .int .i64 o.to, .int .u8 (o.sep.toNat : Int)] 23)).alloc (.cells #[.string a, .string b, .string c] 32)).heap[w.heap.size + 1]? = some (.cells #[.string a, .string b, .string c] 32 (0, 0))) := by
      have := heap_alloc_new (w.alloc (.cells #[.bool o.num, .bool o.fold, .bool o.bls, .bool o.rev, .int .i64 o.fr, .int .i64 o.to, .int .u8 (o.sep.toNat : Int)] 23)) (.cells #[.string a, .string b, .string c] 32)
      rw [World.size_alloc] at this
      exact this
    have B0 : Hid (Below w.heap.size w ((w.alloc (.cells #[.bool o.num, .bool o.fold, .bool o.bls, .bool o.rev, .int .i64 o.fr, .int .i64 o.to, .int .u8 (o.sep.toNat : Int)] 23)).alloc (.cells #[.string a, .string b, .string c] 32))) := ((Below.refl _ _).alloc (Nat.le_refl _) _).alloc (by simp) _
    have z0 : Hid (w.heap.size + 2 ≤ ((w.alloc (.cells #[.bool o.num, .bool o.fold, .bool o.bls, .bool o.rev, .int .i64 o.fr, .int .i64 o.to, .int .u8 (o.sep.toNat : Int)] 23)).alloc (.cells #[.string a, .string b, .string c] 32)).heap.size) := by show _ ≤ _; simp
    go_enter Tryd.func6, Tryd.ntmps6
    go_wp2_with fail
    refine (unhide AL _).mono ?_
    rintro e w1 ⟨rfl, b1⟩
    have p1 := hide ((b1.block _ (by have := (unhide z0); omega)).trans (unhide p0))
    have q1 := hide ((b1.block _ (by have := (unhide z0); omega)).trans (unhide q0))
    have B1 := hide ((unhide B0).trans (b1.mono (unhide B0).size))
    have z1 : Hid (w.heap.size + 2 ≤ w1.heap.size) := Nat.le_trans (unhide z0) b1.size
    obtain ⟨u0, u1, u2, u3, u4, u5, u6, u7, u8, u9⟩ := ten o (unhide p1) (unhide q1)
    clear b1 p0 q0 B0 z0
    go_wp2_with fail
    refine (unhide AL _).mono ?_
    rintro e w2 ⟨rfl, b2⟩
    have p2 := hide ((b2.block _ (by have := (unhide z1); omega)).trans (unhide p1))
    have q2 := hide ((b2.block _ (by have := (unhide z1); omega)).trans (unhide q1))
    have B2 := hide ((unhide B1).trans (b2.mono (unhide B1).size))
    have z2 : Hid (w.heap.size + 2 ≤ w2.heap.size) := Nat.le_trans (unhide z1) b2.size
    obtain ⟨u0, u1, u2, u3, u4, u5, u6, u7, u8, u9⟩ := ten o (unhide p2) (unhide q2)
    clear b2 p1 q1 B1 z1
    go_wp2_with fail
    go_ret
    exact ⟨rfl, unhide B2⟩
  · have za : a.size ≤ 1073741824 := by omega
    have zb : b.size ≤ 1073741824 := by omega
    have zc : c.size ≤ 1073741824 := by omega
    have C1 := hide (fun W => comp_any o a b W za zb)
    have C2 := hide (fun W => comp_any o b c W zb zc)
    have C3 := hide (fun W => comp_any o a c W za zc)
    have HT := hide (tri (good_compare o) a.data.toList b.data.toList c.data.toList)
    unfold ov at C1 C2 C3
    generalize compare o a.data.toList b.data.toList = x at *
    generalize compare o b.data.toList c.data.toList = y at *
    generalize compare o a.data.toList c.data.toList = z at *
    have p0 : Hid (((w.alloc (.cells #[.bool o.num, .bool o.fold, .bool o.bls, .bool o.rev, .int .i64 o.fr, .int .i64 o.to, .int .u8 (o.sep.toNat : Int)] 23)).alloc (.cells #[.string a, .string b, .string c] 32)).heap[w.heap.size]? = some (.cells #[.bool o.num, .bool o.fold, .bool o.bls, .bool o.rev, .int .i64 o.fr, .int .i64 o.to, .int .u8 (o.sep.toNat : Int)] 23 (0, 0))) := (Below.heap_alloc _ _ _ (by simp)).trans (heap_alloc_new w _)
    have q0 : Hid (((w.alloc (.cells #[.bool o.num, .bool o.fold, .bool o.bls, .bool o.rev, .int .i64 o.fr, .int .i64 o.to, .int .u8 (o.sep.toNat : Int)] 23)).alloc (.cells #[.string a, .string b, .string c] 32)).heap[w.heap.size + 1]? = some (.cells #[.string a, .string b, .string c] 32 (0, 0))) := by
      have := heap_alloc_new (w.alloc (.cells #[.bool o.num, .bool o.fold, .bool o.bls, .bool o.rev, .int .i64 o.fr, .int .i64 o.to, .int .u8 (o.sep.toNat : Int)] 23)) (.cells #[.string a, .string b, .string c] 32)
      rw [World.size_alloc] at this
      exact this
    have B0 : Hid (Below w.heap.size w ((w.alloc (.cells #[.bool o.num, .bool o.fold, .bool o.bls, .bool o.rev, .int .i64 o.fr, .int .i64 o.to, .int .u8 (o.sep.toNat : Int)] 23)).alloc (.cells #[.string a, .string b, .string c] 32))) := ((Below.refl _ _).alloc (Nat.le_refl _) _).alloc (by simp) _
    have z0 : Hid (w.heap.size + 2 ≤ ((w.alloc (.cells #[.bool o.num, .bool o.fold, .bool o.bls, .bool o.rev, .int .i64 o.fr, .int .i64 o.to, .int .u8 (o.sep.toNat : Int)] 23)).alloc (.cells #[.string a, .string b, .string c] 32)).heap.size) := by show _ ≤ _; simp
    go_enter Tryd.func6, Tryd.ntmps6
    go_wp2_with fail
    refine (unhide AL _).mono ?_
    rintro e w1 ⟨rfl, b1⟩
    have p1 := hide ((b1.block _ (by have := (unhide z0); omega)).trans (unhide p0))
    have q1 := hide ((b1.block _ (by have := (unhide z0); omega)).trans (unhide q0))
    have B1 := hide ((unhide B0).trans (b1.mono (unhide B0).size))
    have z1 : Hid (w.heap.size + 2 ≤ w1.heap.size) := Nat.le_trans (unhide z0) b1.size
    obtain ⟨u0, u1, u2, u3, u4, u5, u6, u7, u8, u9⟩ := ten o (unhide p1) (unhide q1)
    clear b1 p0 q0 B0 z0
    go_wp2_with fail
    refine (unhide C1 _).mono ?_
    rintro e w2 ⟨rfl, b2⟩
    have p2 := hide ((b2.block _ (by have := (unhide z1); omega)).trans (unhide p1))
    have q2 := hide ((b2.block _ (by have := (unhide z1); omega)).trans (unhide q1))
    have B2 := hide ((unhide B1).trans (b2.mono (unhide B1).size))
    have z2 : Hid (w.heap.size + 2 ≤ w2.heap.size) := Nat.le_trans (unhide z1) b2.size
    obtain ⟨u0, u1, u2, u3, u4, u5, u6, u7, u8, u9⟩ := ten o (unhide p2) (unhide q2)
    clear b2 p1 q1 B1 z1
    clear C1 AL u0 u1 u2 u3 u4 u5 u6 u7 u8 u9
    obtain ⟨u0, u1, u2, u3, u4, u5, u6, u7, u8, u9⟩ := ten o (unhide p2) (unhide q2)
    go_wp2_with fail
    refine (unhide C2 _).mono ?_
    rintro e w3 ⟨rfl, b3⟩
    have p3 := hide ((b3.block _ (by have := (unhide z2); omega)).trans (unhide p2))
    have q3 := hide ((b3.block _ (by have := (unhide z2); omega)).trans (unhide q2))
    have B3 := hide ((unhide B2).trans (b3.mono (unhide B2).size))
    have z3 : Hid (w.heap.size + 2 ≤ w3.heap.size) := Nat.le_trans (unhide z2) b3.size
    obtain ⟨u0, u1, u2, u3, u4, u5, u6, u7, u8, u9⟩ := ten o (unhide p3) (unhide q3)
    clear b3 p2 q2 B2 z2
    go_wp2_with fail
    refine (unhide C3 _).mono ?_
    rintro e w4 ⟨rfl, b4⟩
    have p4 := hide ((b4.block _ (by have := (unhide z3); omega)).trans (unhide p3))
    have q4 := hide ((b4.block _ (by have := (unhide z3); omega)).trans (unhide q3))
    have B4 := hide ((unhide B3).trans (b4.mono (unhide B3).size))
    have z4 : Hid (w.heap.size + 2 ≤ w4.heap.size) := Nat.le_trans (unhide z3) b4.size
    obtain ⟨u0, u1, u2, u3, u4, u5, u6, u7, u8, u9⟩ := ten o (unhide p4) (unhide q4)
    clear b4 p3 q3 B3 z3
    have hT := unhide HT
    clear C2 C3 HT u0 u1 u2 u3 u4 u5 u6 u7 u8 u9 p4 q4 z4
    unfold Tri at hT
    rcases hT with ⟨rfl, rfl, rfl⟩ | ⟨rfl, rfl, rfl⟩ | ⟨rfl, rfl, rfl⟩ | ⟨rfl, rfl, rfl⟩ | ⟨rfl, rfl, rfl⟩ | ⟨rfl, rfl, rfl⟩ | ⟨rfl, rfl, rfl⟩ | ⟨rfl, rfl, rfl⟩ | ⟨rfl, rfl, rfl⟩ | ⟨rfl, rfl, rfl⟩ | ⟨rfl, rfl, rfl⟩ | ⟨rfl, rfl, rfl⟩ | ⟨rfl, rfl, rfl⟩
    all_goals
      go_wp2_with fail
      go_ret
      exact ⟨rfl, unhide B4⟩
end Go.Proofs.YtfffhdbicldihaaDoor.Ky
