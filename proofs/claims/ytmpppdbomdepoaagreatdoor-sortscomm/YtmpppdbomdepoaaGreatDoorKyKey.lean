/- What fieldsOf and Key answer. -/
import Derived.Test.YtmpppdbomdepoaaGreatDoorKyIter
namespace Go.Proofs.YtmpppdbomdepoaaGreatDoor.Ky
open Go.RowKit Go.Shelf

attribute [local go_sem] Oper.semAt_some

set_option maxHeartbeats 400000 in
theorem blankFields_any (s : ByteArray) (w : World) :
    Calls Tryz.prog 158 #[.string s] w fun e w' => e = .returned (.func (.func 173) #[] #[.pointer (some ⟨w.heap.size, 0, none⟩)]) ∧ w' = w.alloc (.cells #[.string s] 9) := by
  have hmf : ∀ (fn : Fn) (first cap : Array Value) (w : World), (Instr.makeFunc fn first cap).run Tryz.prog w = .ok (.func fn first cap) w := fun _ _ _ _ => rfl
  go_enter Tryz.func158, Tryz.ntmps158
  go_wp2
  go_ret
  exact ⟨rfl, rfl⟩
set_option maxHeartbeats 400000 in
theorem partedFields_any (s : ByteArray) (c : Int) (w : World) :
    Calls Tryz.prog 159 #[.string s, .int .u8 c] w fun e w' => e = .returned (.func (.func 175) #[] #[.pointer (some ⟨w.heap.size, 0, none⟩), .pointer (some ⟨w.heap.size + 1, 0, none⟩)]) ∧ w' = (w.alloc (.cells #[.string s] 9)).alloc (.cells #[.int .u8 c] 5) := by
  have hmf : ∀ (fn : Fn) (first cap : Array Value) (w : World), (Instr.makeFunc fn first cap).run Tryz.prog w = .ok (.func fn first cap) w := fun _ _ _ _ => rfl
  go_enter Tryz.func159, Tryz.ntmps159
  go_wp2
  go_ret
  exact ⟨rfl, rfl⟩

/-- an iterator of the places, that reads what lies between two sizes -/
def Gives (o : Ord) (s : ByteArray) (w w' : World) (v : Value) : Prop :=
  ∃ gf lb, v = .func (.func gf) #[] lb ∧ (∀ args w, (callFunc gf args).run Tryz.prog w = .ok (.enter gf args) w) ∧ Below w.heap.size w w' ∧ Rng.Itr Tryz.prog gf lb enc2 (places o s.data.toList) (fun W => Rng.Stays w.heap.size w'.heap.size w' W)
theorem stays_cell {a b : Nat} {X Y : World} (h : Rng.Stays a b X Y) {k : Nat} {c : Array Value} {t : TypeId} (hk : X.heap[k]? = some (.cells c t (0, 0))) (h1 : a ≤ k) (h2 : k < b) (i : Nat) : Y.cell? ⟨k, i, none⟩ = c[i]? := cell_of_row _ _ _ _ _ _ ((h.2 k h1 h2).trans hk)

set_option maxHeartbeats 400000 in
theorem fieldsOf_any (s : ByteArray) (o : Ord) (w : World) (hs : s.size ≤ 1073741824) :
    Calls Tryz.prog 138 #[.string s, .int .u8 (o.sep.toNat : Int)] w fun e w' => ∃ v, e = .returned v ∧ Gives o s w w' v := by
  by_cases h : o.sep = 0
  · have h0 : ((o.sep.toNat : Int) == 0) = true := by rw [h]; rfl
    have G : Hid (Gives o s w (w.alloc (.cells #[.string s] 9)) (.func (.func 173) #[] #[.pointer (some ⟨w.heap.size, 0, none⟩)])) := by
      refine ⟨_, _, rfl, enters_of Tryz.func173 (by kernel_rfl) rfl, (Below.refl _ _).alloc (Nat.le_refl _) _, ?_⟩
      exact blank_itr _ s o h hs _ (fun W hW => stays_cell hW (heap_alloc_new w _) (Nat.le_refl _) (by simp) 0)
    generalize (o.sep.toNat : Int) = c at *
    go_enter Tryz.func138, Tryz.ntmps138
    go_wp2_with fail
    refine (blankFields_any s w).mono ?_
    rintro e w' ⟨rfl, rfl⟩
    go_wp2_with fail
    go_ret
    exact ⟨_, rfl, unhide G⟩
  · have h0 : ((o.sep.toNat : Int) == 0) = false := by
      simp; intro e; exact h (UInt8.toNat_inj.1 e)
    have G : Hid (Gives o s w ((w.alloc (.cells #[.string s] 9)).alloc (.cells #[.int .u8 (o.sep.toNat : Int)] 5)) (.func (.func 175) #[] #[.pointer (some ⟨w.heap.size, 0, none⟩), .pointer (some ⟨w.heap.size + 1, 0, none⟩)])) := by
      refine ⟨_, _, rfl, enters_of Tryz.func175 (by kernel_rfl) rfl, ((Below.refl _ _).alloc (Nat.le_refl _) _).alloc (by simp) _, ?_⟩
      have k1 : ((w.alloc (.cells #[.string s] 9)).alloc (.cells #[.int .u8 (o.sep.toNat : Int)] 5)).heap[w.heap.size]? = some (.cells #[.string s] 9 (0, 0)) := (Below.heap_alloc _ _ _ (by simp)).trans (heap_alloc_new w _)
      have k2 := heap_alloc_new (w.alloc (.cells #[.string s] 9)) (.cells #[.int .u8 (o.sep.toNat : Int)] 5)
      rw [World.size_alloc] at k2
      exact parted_itr _ _ s o h hs _ (fun W hW => ⟨stays_cell hW k1 (Nat.le_refl _) (by simp; omega) 0, stays_cell hW k2 (Nat.le_succ _) (by simp) 0⟩)
    generalize (o.sep.toNat : Int) = c at *
    go_enter Tryz.func138, Tryz.ntmps138
    go_wp2_with fail
    refine (partedFields_any s c w).mono ?_
    rintro e w' ⟨rfl, rfl⟩
    go_wp2_with fail
    go_ret
    exact ⟨_, rfl, unhide G⟩

theorem boxed_put {W : World} {b l : Nat} {t : TypeId} {v : Value} {o o' : Obj} (h : Boxed W b t v) (hl : W.heap[l]? = some o) (ho : o.isCells = false) : Boxed (W.putObj l o') b t v := by
  refine (World.putObj_heap_other ?_).trans h
  intro e
  rw [← e, show W.heap[b]? = _ from h] at hl
  cases hl; cases ho
/-- the blocks that S names lie as they lay -/
def Same (S : Nat → Prop) (A W : World) : Prop := A.heap.size ≤ W.heap.size ∧ ∀ k, k < A.heap.size → S k → W.heap[k]? = A.heap[k]?
theorem ownFrom_same {β : Type} (S : Nat → Prop) (A : World) : OwnFrom A.heap.size (fun (_ : β) W => Same S A W) := fun _ X Y row h hg hr =>
  ⟨Nat.le_trans h.1 hg.size, fun k h1 h2 => (hg.block k (Nat.lt_of_lt_of_le h1 h.1) (fun e => by have := (hr k e.symm).1; omega)).trans (h.2 k h1 h2)⟩
theorem same_set {S : Nat → Prop} {A W : World} {b : Nat} (hb : ¬ S b) (h : Same S A W) (v : Value) : Same S A (W.setCell ⟨b, 0, none⟩ v) :=
  ⟨Nat.le_trans h.1 (grownBy_setCell' W b v).size, fun k h1 h2 => (Below.heap_setCell _ _ _ k (fun e => hb (by simp at e; rw [← e]; exact h2))).trans (h.2 k h1 h2)⟩
/-- how the loop over the fields is left early -/
def Stop (o : Ord) (s : ByteArray) (w : World) (fl : Nat) (S : Nat → Prop) (A : World) (c : Code) (W : World) : Prop :=
  (c = .ret ∧ Boxed W (w.heap.size + 2) 9 (.string (Ln.bt (key o s.data.toList)))) ∨
  (c = .exit 0 ∧ ∃ k : Nat, Boxed W fl 3 (.int .i64 (k : Int)) ∧ Boxed W (w.heap.size + 2) 9 (.string { data := #[] }) ∧ Same S A W ∧ key o s.data.toList = s.data.toList.drop k ∧ k ≤ s.size)
theorem ownFrom_stop {β : Type} (o : Ord) (s : ByteArray) (w : World) (fl : Nat) (S : Nat → Prop) (A : World) (c : Code) : OwnFrom A.heap.size (fun (_ : β) W => Stop o s w fl S A c W) := by
  intro x X Y row h hg hr
  rcases h with ⟨h1, h2⟩ | ⟨h1, k, h2, h3, h4, h5, h6⟩
  · exact .inl ⟨h1, boxed_own (w.heap.size + 2) 9 (fun _ : Unit => .string (Ln.bt (key o s.data.toList))) () X Y row h2 hg (fun r e => (hr r e).2)⟩
  · exact .inr ⟨h1, k, boxed_own fl 3 (fun _ : Unit => .int .i64 (k : Int)) () X Y row h2 hg (fun r e => (hr r e).2), boxed_own (w.heap.size + 2) 9 (fun _ : Unit => .string { data := #[] }) () X Y row h3 hg (fun r e => (hr r e).2), ownFrom_same S A () X Y row h4 hg hr, h5, h6⟩
theorem lay_two (w1 w : World) (x y : Value) (hB : Below w.heap.size w w1) : w1.grownBy ((w1.alloc (.cells #[x] 3)).alloc (.cells #[y] 3)).drew none ∧ Below w.heap.size w ((w1.alloc (.cells #[x] 3)).alloc (.cells #[y] 3)).drew ∧
    Boxed ((w1.alloc (.cells #[x] 3)).alloc (.cells #[y] 3)).drew w1.heap.size 3 x ∧ Boxed ((w1.alloc (.cells #[x] 3)).alloc (.cells #[y] 3)).drew (w1.heap.size + 1) 3 y ∧ ((w1.alloc (.cells #[x] 3)).alloc (.cells #[y] 3)).drew.heap.size = w1.heap.size + 2 := by
  have h0 : Below w1.heap.size w1 ((w1.alloc (.cells #[x] 3)).alloc (.cells #[y] 3)).drew := (((Below.refl _ _).alloc (Nat.le_refl _) _).alloc (by simp) _).trans ⟨rfl, rfl, rfl, Nat.le_refl _, fun _ _ => rfl⟩
  have h1 := (Boxed.new w1 3 x).alloc (.cells #[y] 3)
  have h2 := Boxed.new (w1.alloc (.cells #[x] 3)) 3 y
  rw [World.size_alloc] at h2
  exact ⟨grown_of_below h0, hB.trans (h0.mono hB.size), h1, h2, by show ((w1.alloc _).alloc _).heap.size = _; simp⟩
theorem res_key (tmps : Array Value) (w : World) (b : Nat) {v : ByteArray} (ht : tmps.getD 4 undef = .pointer (some ⟨b, 0, none⟩)) (hb : Boxed w b 9 (.string v)) :
    (results Tryz.f123 tmps).run Tryz.prog w = .ok (.string v) w := by
  have q := hb.cell
  rw [Array.getD_eq_getD_getElem?] at ht
  simp [results, Tryz.f123, go_sem, ht, q]

set_option maxRecDepth 100000 in
set_option maxHeartbeats 8000000 in
theorem key_any (o : Ord) (s : ByteArray) (w : World) (hs : s.size ≤ 1073741824) :
    Calls Tryz.prog 123 #[ov o, .string s] w fun e w' => e = .returned (.string (Ln.bt (key o s.data.toList))) ∧ Below w.heap.size w w' := by
  have C1 : Hid (∀ W, Calls Tryz.prog 21 #[ov o] W fun e w' => e = .returned (.bool (okO o)) ∧ Below W.heap.size W w') := check_any o
  have C2 : Hid (∀ W, Calls Tryz.prog 138 #[.string s, .int .u8 (o.sep.toNat : Int)] W fun e w' => ∃ v, e = .returned v ∧ Gives o s W w' v) := fun W => fieldsOf_any s o W hs
  unfold ov at C1 ⊢
  refine (callsIn_wide (n := 3)).1 ?_
  refine callsIn_of_wp_marks Tryz.func123 rfl trivial ?_ rfl
  simp only [Tryz.ntmps123, List.size_toArray, List.length_cons, List.length_nil, Nat.reduceAdd, Nat.reduceSub, Array.replicate_succ, Array.replicate_zero, List.push_toArray, List.append_toArray, List.nil_append, List.cons_append]
  obtain ⟨oc, hoc⟩ : ∃ oc, oc = #[Value.bool o.num, .bool o.fold, .bool o.bls, .bool o.rev, .int .i64 o.fr, .int .i64 o.to, .int .u8 (o.sep.toNat : Int)] := ⟨_, rfl⟩
  have hoc4 : oc[4]? = some (.int .i64 o.fr) := by rw [hoc]; rfl
  have hoc5 : oc[5]? = some (.int .i64 o.to) := by rw [hoc]; rfl
  have hoc6 : oc[6]? = some (.int .u8 (o.sep.toNat : Int)) := by rw [hoc]; rfl
  obtain ⟨w0, hw0⟩ : ∃ w0, w0 = ((w.alloc (.cells oc 23)).alloc (.cells #[.string s] 9)).alloc (.cells #[.string { data := #[] }] 9) := ⟨_, rfl⟩
  have k1 : w0.heap[w.heap.size]? = some (.cells oc 23 (0, 0)) := by
    rw [hw0]; exact (Below.heap_alloc _ _ _ (by simp; omega)).trans ((Below.heap_alloc _ _ _ (by simp)).trans (heap_alloc_new w _))
  have k2 : Boxed w0 (w.heap.size + 1) 9 (.string s) := by
    have := (Boxed.new (w.alloc (.cells oc 23)) 9 (.string s)).alloc (.cells #[.string { data := #[] }] 9)
    rw [World.size_alloc] at this
    rw [hw0]; exact this
  have k3 : Boxed w0 (w.heap.size + 2) 9 (.string { data := #[] }) := by
    have := Boxed.new ((w.alloc (.cells oc 23)).alloc (.cells #[.string s] 9)) 9 (.string { data := #[] })
    rw [World.size_alloc, World.size_alloc] at this
    rw [hw0]; exact this
  have hB0 : Below w.heap.size w w0 := by
    rw [hw0]; exact (((Below.refl _ _).alloc (Nat.le_refl _) _).alloc (by simp) _).alloc (by simp; omega) _
  have hz0 : w0.heap.size = w.heap.size + 3 := by rw [hw0]; simp
  gi_wp2_with fail
  simp only [← hoc] at C1 ⊢
  rw [← hw0]
  clear hw0
  refine ⟨trivial, (callsIn_wide.2 (unhide C1 w0)).mono ?_⟩
  rintro e w1 ⟨rfl, hB1⟩
  have hs1 := hB1.size
  have j1 := (hB1.block _ (show w.heap.size < w0.heap.size by omega)).trans k1
  have j2 : Boxed w1 (w.heap.size + 1) 9 (.string s) := (hB1.block _ (show w.heap.size + 1 < w0.heap.size by omega)).trans k2
  have j3 : Boxed w1 (w.heap.size + 2) 9 (.string { data := #[] }) := (hB1.block _ (show w.heap.size + 2 < w0.heap.size by omega)).trans k3
  have hBw : Below w.heap.size w w1 := hB0.trans (hB1.mono (by omega))
  have hz1 : w.heap.size + 3 ≤ w1.heap.size := by omega
  clear k1 k2 k3 hB0 hB1 hz0 hs1 C1
  have hres := j3.cell
  have hrf := j3.frozen
  cases hok : okO o
  · have ek : Hid (key o s.data.toList = []) := by
      show _ = _
      unfold key; rw [if_pos hok]
    clear C2 hok
    gi_wp2_with fail
    have hr := j3.set (.string { data := #[] })
    exact ⟨_, res_key _ _ _ rfl hr, by rw [unhide ek]; rfl, hBw.setCell (p := ⟨w.heap.size + 2, 0, none⟩) (by simp) _⟩
  · have ho4 : w1.cell? ⟨w.heap.size, 4, none⟩ = some (.int .i64 o.fr) := (cell_of_row _ _ _ _ _ _ j1).trans hoc4
    have ho6 : w1.cell? ⟨w.heap.size, 6, none⟩ = some (.int .u8 (o.sep.toNat : Int)) := (cell_of_row _ _ _ _ _ _ j1).trans hoc6
    have hsc := j2.cell
    have hfr0 : 0 ≤ o.fr ∧ o.fr ≤ 1000 ∧ 0 ≤ o.to ∧ o.to ≤ 1000 := by
      unfold okO at hok; simp at hok; omega
    by_cases hfr : o.fr = 0
    · have ek : Hid (key o s.data.toList = s.data.toList) := by
        show _ = _
        unfold key; rw [if_neg (by simp [hok]), if_pos hfr]
      rw [hfr] at ho4
      clear C2 hok
      gi_wp2_with fail
      have hr := j3.set (.string s)
      refine ⟨_, res_key _ _ _ rfl hr, ?_, hBw.setCell (p := ⟨w.heap.size + 2, 0, none⟩) (by simp) _⟩
      rw [unhide ek]; rfl
    · have hfr1 : (o.fr == 0) = false := by simpa using hfr
      have HOK := hide hok
      have hz2 : ((w1.alloc (.cells #[.int .i64 0] 3)).alloc (.cells #[.int .i64 (s.size : Int)] 3)).heap.size = w1.heap.size + 2 := by simp
      have hsc1 := (j2.alloc (.cells #[.int .i64 0] 3)).cell
      have hsc2 := ((j2.alloc (.cells #[.int .i64 0] 3)).alloc (.cells #[.int .i64 0] 3)).cell
      have FA := hide (lay_two w1 w (.int .i64 0) (.int .i64 (s.size : Int)) hBw)
      have FB := hide (lay_two w1 w (.int .i64 (s.size : Int)) (.int .i64 0) hBw)
      have J1 := hide j1
      have J2 := hide j2
      have J3 := hide j3
      clear j1 j3 hok hBw
      gi_wp2_with fail
      refine wpIn_wide.2 ?_
      go_region
      · clear hsc1 hsc2 FB
        obtain ⟨hg, hB2, bP, bF, hz2⟩ := unhide FA
        clear FA
        obtain ⟨fl, hfl⟩ : ∃ fl, fl = w1.heap.size + 1 := ⟨_, rfl⟩
        rw [← hfl] at bF ⊢
        obtain ⟨pl, hpl⟩ : ∃ pl, pl = w1.heap.size := ⟨_, rfl⟩
        rw [← hpl] at bP ⊢
        generalize (World.drew _) = W2 at *
        have j1 := (hg.block _ (show w.heap.size < w1.heap.size by omega) (by simp)).trans (unhide J1)
        have j2' : Boxed W2 (w.heap.size + 1) 9 (.string s) := (hg.block _ (show w.heap.size + 1 < w1.heap.size by omega) (by simp)).trans (unhide J2)
        have j3 : Boxed W2 (w.heap.size + 2) 9 (.string { data := #[] }) := (hg.block _ (show w.heap.size + 2 < w1.heap.size by omega) (by simp)).trans (unhide J3)
        have hq : w.heap.size + 3 ≤ pl ∧ pl < W2.heap.size ∧ w.heap.size + 3 ≤ fl ∧ fl < W2.heap.size ∧ pl ≠ fl := by omega
        clear hg J1 J2 J3 hz2 hz1 ho4 ho6 hsc hres hrf j2 hfl hpl
        have hc1 := j2'.cell
        have hc2 : W2.cell? ⟨w.heap.size, 6, none⟩ = some (.int .u8 (o.sep.toNat : Int)) := (cell_of_row _ _ _ _ _ _ j1).trans hoc6
        gi_wp2_with (refine ⟨trivial, ?_⟩; gi_at_call 138; refine (callsIn_wide.2 (unhide C2 _)).mono ?_; rintro e W3 ⟨v, rfl, gf, lb, rfl, heg, hB3, hit⟩)
        clear hc1 hc2 C2
        have hs3 := hB3.size
        have bP3 : Boxed W3 pl 3 (.int .i64 ((([] : List (Nat × Nat)).length : Nat) : Int)) := (hB3.block _ hq.2.1).trans bP
        have bF3 : Boxed W3 fl 3 (.int .i64 (fromAt s.size o.fr.toNat [] : Nat)) := (hB3.block _ hq.2.2.2.1).trans (by rw [fromAt_out (by simp; omega)]; exact bF)
        have bR3 : Boxed W3 (w.heap.size + 2) 9 (.string { data := #[] }) := (hB3.block _ (by omega)).trans j3
        have bS3 : Boxed W3 (w.heap.size + 1) 9 (.string s) := (hB3.block _ (by omega)).trans j2'
        have bO3 := (hB3.block w.heap.size (by omega)).trans j1
        have hBw3 : Below w.heap.size w W3 := hB2.trans (hB3.mono (by omega))
        clear bP bF j1 j2' j3 hB2 hB3
        have HIT := hide hit
        clear hit
        obtain ⟨S, hS⟩ : ∃ S : Nat → Prop, S = fun k => k ≠ pl ∧ k ≠ fl ∧ k ≠ w.heap.size + 2 := ⟨_, rfl⟩
        have hSp : ¬ S pl := by rw [hS]; simp
        have hSf : ¬ S fl := by rw [hS]; simp
        have hSr : ¬ S (w.heap.size + 2) := by rw [hS]; simp
        have hSo : S w.heap.size := by rw [hS]; refine ⟨?_, ?_, ?_⟩ <;> omega
        have hSs : S (w.heap.size + 1) := by rw [hS]; refine ⟨?_, ?_, ?_⟩ <;> omega
        have hSi : ∀ k, W2.heap.size ≤ k → S k := fun k hk => by rw [hS]; refine ⟨?_, ?_, ?_⟩ <;> omega
        clear hS
        refine Rng.range (gf := gf) (lb := lb) rfl heg (unhide HIT) (fun _ => rfl)
          (fun N pre W => Boxed W pl 3 (.int .i64 (pre.length : Int)) ∧ Boxed W fl 3 (.int .i64 (fromAt s.size o.fr.toNat pre : Nat)) ∧ Boxed W (w.heap.size + 2) 9 (.string { data := #[] }) ∧ Same S W3 W ∧ Below w.heap.size w W ∧ ((o.to = 0 → (pre.length : Int) < o.fr) ∧ (0 < o.to → (pre.length : Int) < o.to)))
          (fun N c pre W => Below w.heap.size w W ∧ Stop o s w fl S W3 c W)
          (fun N => OwnFrom.and (Own.from (boxed_own _ _ (fun pre : List (Nat × Nat) => .int .i64 (pre.length : Int))) _) (OwnFrom.and (Own.from (boxed_own _ _ (fun pre : List (Nat × Nat) => .int .i64 (fromAt s.size o.fr.toNat pre : Nat))) _) (OwnFrom.and (Own.from (boxed_own _ _ (fun _ => .string { data := #[] })) _) (OwnFrom.and (ownFrom_same _ _) (OwnFrom.and (ownFrom_below (Nat.le_refl _) (by omega)) (ownFrom_pure _ _))))))
          (fun N c => OwnFrom.and (ownFrom_below (Nat.le_refl _) (by omega)) (ownFrom_stop _ _ _ _ _ _ _))
          (fun N pre W h => ⟨h.2.2.2.1.1, fun k h1 h2 => h.2.2.2.1.2 k h2 (hSi k h1)⟩)
          (fun N => ⟨bP3, bF3, bR3, ⟨Nat.le_refl _, fun _ _ _ => rfl⟩, hBw3, fun _ => by simp; omega, fun h => by simpa using h⟩)
          (fun x => { tmps := #[.agg #[.bool o.num, .bool o.fold, .bool o.bls, .bool o.rev, .int .i64 o.fr, .int .i64 o.to, .int .u8 (o.sep.toNat : Int)], .string s, .pointer (some ⟨w.heap.size, 0, none⟩), .pointer (some ⟨w.heap.size + 1, 0, none⟩), .pointer (some ⟨w.heap.size + 1 + 1, 0, none⟩), .pointer (some ⟨pl, 0, none⟩), .pointer (some ⟨fl, 0, none⟩), .int .i64 (x.1 : Int), .int .i64 (x.2 : Int), .agg #[.bool o.num, .bool o.fold, .bool o.bls, .bool o.rev, .int .i64 o.fr, .int .i64 o.to, .int .u8 (o.sep.toNat : Int)], .bool true, .bool false, .pointer (some ⟨w.heap.size, 4, none⟩), .int .i64 o.fr, .bool false, undef, .string s, .int .i64 (s.size : Int), .string s, .pointer (some ⟨w.heap.size, 6, none⟩), .int .u8 (o.sep.toNat : Int), .func (.func gf) #[] lb, .int .i64 (x.1 : Int), .int .i64 (x.2 : Int), undef, undef, undef, undef, undef, undef, undef, undef, undef, undef, undef, undef, undef, undef, undef, undef, undef, undef, undef, undef, undef], defers := [] }) ?assign ?body ?done ?stop
        case assign =>
          intro m l x W K hK
          simp only [enc2]
          gi_wp2
          exact hK
        case body =>
          clear bP3 bF3 bR3 hBw3 heg HIT
          rintro m l N pre ⟨a, b⟩ W ⟨hP, hF, hR, hSm, hB, hto1, hto2⟩ hpre hN1 hN2
          have HS := hide hSm
          have HB := hide hB
          obtain ⟨rst, hrst⟩ := hpre
          have hpl2 : places o s.data.toList = pre ++ (a, b) :: rst := by rw [← hrst]; simp
          have hle := places_le hpl2
          have hle2 : b ≤ s.size := hle.2
          have hle1 : a ≤ b := hle.1
          have hbO : W.heap[w.heap.size]? = some (.cells oc 23 (0, 0)) := (hSm.2 _ (by omega) hSo).trans bO3
          have hbS : Boxed W (w.heap.size + 1) 9 (.string s) := (hSm.2 _ (by omega) hSs).trans bS3
          have hfle : fromAt s.size o.fr.toNat pre ≤ s.size := fromAt_le _ _ o s.data.toList (hrst.symm.trans (List.append_assoc _ _ _)) rfl
          have hsn := fromAt_snoc (n := s.size) pre (a, b) (show 0 < o.fr.toNat by omega)
          obtain ⟨n, hn⟩ : ∃ n, n = pre.length := ⟨_, rfl⟩
          rw [← hn] at hP hto1 hto2 hsn
          have hnb : (n : Int) ≤ 1000 := by
            by_cases h : o.to = 0
            · have := hto1 h; omega
            · have := hto2 (by omega); omega
          have hc1 := hP.cell
          have hf1 := hP.frozen
          have oP : Boxed (W.setCell ⟨pl, 0, none⟩ (.int .i64 ((n : Int) + 1))) pl 3 (.int .i64 ((n : Int) + 1)) := hP.set _
          have oF := hF.other (fun h => hq.2.2.2.2 h.symm) (.int .i64 ((n : Int) + 1)) (B' := pl)
          have oR := hR.other (show w.heap.size + 2 ≠ pl by omega) (.int .i64 ((n : Int) + 1))
          have oS := hbS.other (show w.heap.size + 1 ≠ pl by omega) (.int .i64 ((n : Int) + 1))
          have oO := (Below.heap_setCell W ⟨pl, 0, none⟩ (.int .i64 ((n : Int) + 1)) w.heap.size (by simp; omega)).trans hbO
          have oSm := hide (same_set hSp hSm (.int .i64 ((n : Int) + 1)))
          have oB := hide (hB.setCell (p := ⟨pl, 0, none⟩) (show w.heap.size ≤ pl by omega) (.int .i64 ((n : Int) + 1)))
          have oSt : Rng.Stays W3.heap.size N W (W.setCell ⟨pl, 0, none⟩ (.int .i64 ((n : Int) + 1))) := Rng.Stays.set _ _ _ (by omega)
          obtain ⟨W4, hW4⟩ : ∃ W4, W4 = W.setCell ⟨pl, 0, none⟩ (.int .i64 ((n : Int) + 1)) := ⟨_, rfl⟩
          rw [← hW4] at oP oF oR oS oO oSm oB oSt
          have HW4 := hide hW4
          have HST := hide oSt
          clear hW4 oSt hP hF hR hbS hbO HS HB hSm hB hrst
          have d1 := oP.cell
          have d2 : W4.cell? ⟨w.heap.size, 4, none⟩ = some (.int .i64 o.fr) := (cell_of_row _ _ _ _ _ _ oO).trans hoc4
          have d3 : W4.cell? ⟨w.heap.size, 5, none⟩ = some (.int .i64 o.to) := (cell_of_row _ _ _ _ _ _ oO).trans hoc5
          have d4 := oF.cell
          have d5 := oS.cell
          have d6 := oR.cell
          have d7 := oR.frozen
          have d8 := oF.frozen
          have hW4' := (unhide HW4).symm
          by_cases hA : (n : Int) + 1 = o.fr
          · have tA : ((n : Int) + 1 == o.fr) = true := by simpa using hA
            have hFx : fromAt s.size o.fr.toNat (pre ++ [(a, b)]) = a := by rw [hsn, if_pos (by omega)]
            have e1 := oF.set (.int .i64 (a : Int))
            have e2 := oP.other (fun h => hq.2.2.2.2 h) (.int .i64 (a : Int)) (B' := fl)
            have e3 := oR.other (show w.heap.size + 2 ≠ fl by omega) (.int .i64 (a : Int))
            have e4 := oS.other (show w.heap.size + 1 ≠ fl by omega) (.int .i64 (a : Int))
            have e5 := (Below.heap_setCell W4 ⟨fl, 0, none⟩ (.int .i64 (a : Int)) w.heap.size (by simp; omega)).trans oO
            have e6 := hide (same_set hSf (unhide oSm) (.int .i64 (a : Int)))
            have e7 := hide ((unhide oB).setCell (p := ⟨fl, 0, none⟩) (show w.heap.size ≤ fl by omega) (.int .i64 (a : Int)))
            have e8 : Hid (Rng.Stays W3.heap.size N W (W4.setCell ⟨fl, 0, none⟩ (.int .i64 (a : Int)))) := (unhide HST).trans (Rng.Stays.set _ _ _ (by omega))
            obtain ⟨W5, hW5⟩ : ∃ W5, W4.setCell ⟨fl, 0, none⟩ (.int .i64 (a : Int)) = W5 := ⟨_, rfl⟩
            rw [hW5] at e1 e2 e3 e4 e5 e6 e7 e8
            have g1 := e2.cell
            have g3 : W5.cell? ⟨w.heap.size, 5, none⟩ = some (.int .i64 o.to) := (cell_of_row _ _ _ _ _ _ e5).trans hoc5
            have g4 := e1.cell
            have g5 := e4.cell
            have g6 := e3.cell
            have g7 := e3.frozen
            clear hsn hto1 hto2 hSp hSf hSr hSo hSs hSi hoc4 hoc5 hoc6 oSm oB oO oR oF oP oS d5 d6 d7 HW4 HST bS3 bO3 hle
            by_cases hT0 : o.to = 0
            · have hkb := hide (key_brk (unhide HOK) (by omega) hT0 hpl2 (by rw [← hn]; exact hA))
              rw [hT0] at g3
              clear hT0 hpl2 hFx hn hA
              gi_wp2
              exact ⟨unhide e8, unhide e7, .inr ⟨rfl, a, e1, e3, unhide e6, unhide hkb, by omega⟩⟩
            · have tT0 : (o.to == 0) = false := by simpa using hT0
              by_cases hTo : (n : Int) + 1 = o.to
              · have tTo : ((n : Int) + 1 == o.to) = true := by simpa using hTo
                have hkr := (key_ret (unhide HOK) (by omega) (by omega) hpl2 (by rw [← hn]; exact hTo)).1
                rw [show s.data.toList.length = s.size from rfl, hFx] at hkr
                have HKR : Hid (Ln.bt (key o s.data.toList) = s.extract a b) := by
                  show _ = _
                  rw [Ln.bt_extract, hkr]
                clear hkr hpl2 hFx hn hTo hA
                gi_wp2
                exact ⟨(unhide e8).trans (Rng.Stays.set _ _ _ (by omega)), (unhide e7).setCell (p := ⟨w.heap.size + 2, 0, none⟩) (by simp) _, .inl ⟨rfl, by rw [unhide HKR]; exact e3.set _⟩⟩
              · have tTo : ((n : Int) + 1 == o.to) = false := by simpa using hTo
                have hlen : ((pre ++ [(a, b)]).length : Int) = (n : Int) + 1 := by rw [List.length_append, ← hn]; simp
                have HL := hide hlen
                have HF := hide hFx
                have hto3 : (n : Int) + 1 < o.to := by
                  have := ok_to (unhide HOK) (by omega); omega
                clear hlen hFx hn hpl2 hA
                gi_wp2
                refine ⟨unhide e8, by rw [unhide HL]; exact e2, by rw [unhide HF]; exact e1, e3, unhide e6, unhide e7, fun h => absurd h hT0, fun _ => by rw [unhide HL]; exact hto3⟩
          · have tA : ((n : Int) + 1 == o.fr) = false := by simpa using hA
            have hFx : fromAt s.size o.fr.toNat (pre ++ [(a, b)]) = fromAt s.size o.fr.toNat pre := by rw [hsn, if_neg (by omega)]
            obtain ⟨F, hF0⟩ : ∃ F, F = fromAt s.size o.fr.toNat pre := ⟨_, rfl⟩
            rw [← hF0] at hFx d4 oF hfle
            clear hF0 hsn
            by_cases hTo : (n : Int) + 1 = o.to
            · have tTo : ((n : Int) + 1 == o.to) = true := by simpa using hTo
              have hkr := key_ret (unhide HOK) (by omega) (by omega) hpl2 (by rw [← hn]; exact hTo)
              rw [show s.data.toList.length = s.size from rfl, hFx] at hkr
              have HKR : Hid (Ln.bt (key o s.data.toList) = s.extract F b) := by
                show _ = _
                rw [Ln.bt_extract, hkr.1]
              have hFb : F ≤ b := hkr.2
              clear hkr hpl2 hFx hn hTo hle
              gi_wp2
              exact ⟨(unhide HST).trans (Rng.Stays.set _ _ _ (by omega)), (unhide oB).setCell (p := ⟨w.heap.size + 2, 0, none⟩) (by simp) _, .inl ⟨rfl, by rw [unhide HKR]; exact oR.set _⟩⟩
            · have tTo : ((n : Int) + 1 == o.to) = false := by simpa using hTo
              have hlen : ((pre ++ [(a, b)]).length : Int) = (n : Int) + 1 := by rw [List.length_append, ← hn]; simp
              have HL := hide hlen
              have HF := hide hFx
              have hto3 : 0 < o.to → (n : Int) + 1 < o.to := fun h => by have := hto2 h; omega
              have hto4 : o.to = 0 → (n : Int) + 1 < o.fr := fun h => by have := hto1 h; omega
              clear hlen hFx hn hpl2 hle
              have H3 := hide hto3
              have H4 := hide hto4
              clear hto1 hto2 hto3 hto4
              gi_wp2
              refine ⟨unhide HST, by rw [unhide HL]; exact oP, by rw [unhide HF]; exact oF, oR, unhide oSm, unhide oB, fun h => by rw [unhide HL]; exact unhide H4 h, fun h => by rw [unhide HL]; exact unhide H3 h⟩
        case done =>
          rintro N W _ ⟨hP, hF, hR, hSm, hB, hto1, hto2⟩ hD
          have hkd := hide (key_done (unhide HOK) (by omega) hto1 hto2)
          have hfle : fromAt s.size o.fr.toNat (places o s.data.toList) ≤ s.size := fromAt_le _ _ o s.data.toList (List.append_nil _).symm rfl
          have hbS : Boxed W (w.heap.size + 1) 9 (.string s) := (hSm.2 _ (by omega) hSs).trans bS3
          obtain ⟨F, hF0⟩ : ∃ F, F = fromAt s.size o.fr.toNat (places o s.data.toList) := ⟨_, rfl⟩
          rw [show s.data.toList.length = s.size from rfl] at hkd
          rw [← hF0] at hkd hF hfle
          clear hF0
          have hc1 := hF.cell
          have hc2 := hbS.cell
          have hc3 := hR.cell
          have hc4 := hR.frozen
          have HKR : Hid (Ln.bt (key o s.data.toList) = s.extract F s.size) := by
            show _ = _
            rw [unhide hkd, Ln.bt_extract, List.take_of_length_le (by rw [List.length_drop]; exact Nat.le_refl _)]
          have hB9 := hide (hB.setCell (p := ⟨w.heap.size + 2, 0, none⟩) (by simp) (.string (s.extract F s.size)))
          have hR9 := hR.set (.string (s.extract F s.size))
          have hD9 := (Below.heap_setCell W ⟨w.heap.size + 2, 0, none⟩ (.string (s.extract F s.size)) W3.heap.size (by simp; omega)).trans hD
          have HSm := hide hSm
          have HD := hide hD
          clear hkd hB hSm hD hto1 hto2 hP
          gi_wp2
          refine ⟨by simp, .inl ⟨_, _, rfl, run_takeDeferred hD9, ?_⟩⟩
          have hR2 := fun o' => boxed_put (o' := o') hR9 hD9 rfl
          exact ⟨_, res_key _ _ _ rfl (hR2 _), by rw [unhide HKR], (unhide hB9).trans (belowK_b (w := w) (Nat.le_refl _) _ _ _ _ (by omega) hD9 rfl rfl)⟩
        case stop =>
          rintro N c pre W _ _ ⟨hB, hst⟩ hD
          rcases hst with ⟨rfl, hR⟩ | ⟨rfl, F, hF, hR, hSm, hkd0, hfle⟩
          · gi_wp2
            refine ⟨by simp, .inl ⟨_, _, rfl, run_takeDeferred hD, ?_⟩⟩
            have hR2 := fun o' => boxed_put (o' := o') hR hD rfl
            exact ⟨_, res_key _ _ _ rfl (hR2 _), rfl, hB.trans (belowK_b (w := w) (Nat.le_refl _) _ _ _ _ (by omega) hD rfl rfl)⟩
          · have hkd := hide hkd0
            have hbS : Boxed W (w.heap.size + 1) 9 (.string s) := (hSm.2 _ (by omega) hSs).trans bS3
            have hc1 := hF.cell
            have hc2 := hbS.cell
            have hc3 := hR.cell
            have hc4 := hR.frozen
            have HKR : Hid (Ln.bt (key o s.data.toList) = s.extract F s.size) := by
              show _ = _
              rw [unhide hkd, Ln.bt_extract, List.take_of_length_le (by rw [List.length_drop]; exact Nat.le_refl _)]
            have hB9 := hide (hB.setCell (p := ⟨w.heap.size + 2, 0, none⟩) (by simp) (.string (s.extract F s.size)))
            have hR9 := hR.set (.string (s.extract F s.size))
            have hD9 := (Below.heap_setCell W ⟨w.heap.size + 2, 0, none⟩ (.string (s.extract F s.size)) W3.heap.size (by simp; omega)).trans hD
            have HSm := hide hSm
            have HD := hide hD
            clear hkd hB hSm hD hkd0
            gi_wp2
            refine ⟨by simp, .inl ⟨_, _, rfl, run_takeDeferred hD9, ?_⟩⟩
            have hR2 := fun o' => boxed_put (o' := o') hR9 hD9 rfl
            exact ⟨_, res_key _ _ _ rfl (hR2 _), by rw [unhide HKR], (unhide hB9).trans (belowK_b (w := w) (Nat.le_refl _) _ _ _ _ (by omega) hD9 rfl rfl)⟩
      · clear hsc1 hsc2 FA
        obtain ⟨hg, hB2, bF, bP, hz2⟩ := unhide FB
        clear FB
        obtain ⟨pl, hpl⟩ : ∃ pl, pl = w1.heap.size + 1 := ⟨_, rfl⟩
        rw [← hpl] at bP ⊢
        obtain ⟨fl, hfl⟩ : ∃ fl, fl = w1.heap.size := ⟨_, rfl⟩
        rw [← hfl] at bF ⊢
        generalize (World.drew _) = W2 at *
        have j1 := (hg.block _ (show w.heap.size < w1.heap.size by omega) (by simp)).trans (unhide J1)
        have j2' : Boxed W2 (w.heap.size + 1) 9 (.string s) := (hg.block _ (show w.heap.size + 1 < w1.heap.size by omega) (by simp)).trans (unhide J2)
        have j3 : Boxed W2 (w.heap.size + 2) 9 (.string { data := #[] }) := (hg.block _ (show w.heap.size + 2 < w1.heap.size by omega) (by simp)).trans (unhide J3)
        have hq : w.heap.size + 3 ≤ pl ∧ pl < W2.heap.size ∧ w.heap.size + 3 ≤ fl ∧ fl < W2.heap.size ∧ pl ≠ fl := by omega
        clear hg J1 J2 J3 hz2 hz1 ho4 ho6 hsc hres hrf j2 hfl hpl
        have hc1 := j2'.cell
        have hc2 : W2.cell? ⟨w.heap.size, 6, none⟩ = some (.int .u8 (o.sep.toNat : Int)) := (cell_of_row _ _ _ _ _ _ j1).trans hoc6
        gi_wp2_with (refine ⟨trivial, ?_⟩; gi_at_call 138; refine (callsIn_wide.2 (unhide C2 _)).mono ?_; rintro e W3 ⟨v, rfl, gf, lb, rfl, heg, hB3, hit⟩)
        clear hc1 hc2 C2
        have hs3 := hB3.size
        have bP3 : Boxed W3 pl 3 (.int .i64 ((([] : List (Nat × Nat)).length : Nat) : Int)) := (hB3.block _ hq.2.1).trans bP
        have bF3 : Boxed W3 fl 3 (.int .i64 (fromAt s.size o.fr.toNat [] : Nat)) := (hB3.block _ hq.2.2.2.1).trans (by rw [fromAt_out (by simp; omega)]; exact bF)
        have bR3 : Boxed W3 (w.heap.size + 2) 9 (.string { data := #[] }) := (hB3.block _ (by omega)).trans j3
        have bS3 : Boxed W3 (w.heap.size + 1) 9 (.string s) := (hB3.block _ (by omega)).trans j2'
        have bO3 := (hB3.block w.heap.size (by omega)).trans j1
        have hBw3 : Below w.heap.size w W3 := hB2.trans (hB3.mono (by omega))
        clear bP bF j1 j2' j3 hB2 hB3
        have HIT := hide hit
        clear hit
        obtain ⟨S, hS⟩ : ∃ S : Nat → Prop, S = fun k => k ≠ pl ∧ k ≠ fl ∧ k ≠ w.heap.size + 2 := ⟨_, rfl⟩
        have hSp : ¬ S pl := by rw [hS]; simp
        have hSf : ¬ S fl := by rw [hS]; simp
        have hSr : ¬ S (w.heap.size + 2) := by rw [hS]; simp
        have hSo : S w.heap.size := by rw [hS]; refine ⟨?_, ?_, ?_⟩ <;> omega
        have hSs : S (w.heap.size + 1) := by rw [hS]; refine ⟨?_, ?_, ?_⟩ <;> omega
        have hSi : ∀ k, W2.heap.size ≤ k → S k := fun k hk => by rw [hS]; refine ⟨?_, ?_, ?_⟩ <;> omega
        clear hS
        refine Rng.range (gf := gf) (lb := lb) rfl heg (unhide HIT) (fun _ => rfl)
          (fun N pre W => Boxed W pl 3 (.int .i64 (pre.length : Int)) ∧ Boxed W fl 3 (.int .i64 (fromAt s.size o.fr.toNat pre : Nat)) ∧ Boxed W (w.heap.size + 2) 9 (.string { data := #[] }) ∧ Same S W3 W ∧ Below w.heap.size w W ∧ ((o.to = 0 → (pre.length : Int) < o.fr) ∧ (0 < o.to → (pre.length : Int) < o.to)))
          (fun N c pre W => Below w.heap.size w W ∧ Stop o s w fl S W3 c W)
          (fun N => OwnFrom.and (Own.from (boxed_own _ _ (fun pre : List (Nat × Nat) => .int .i64 (pre.length : Int))) _) (OwnFrom.and (Own.from (boxed_own _ _ (fun pre : List (Nat × Nat) => .int .i64 (fromAt s.size o.fr.toNat pre : Nat))) _) (OwnFrom.and (Own.from (boxed_own _ _ (fun _ => .string { data := #[] })) _) (OwnFrom.and (ownFrom_same _ _) (OwnFrom.and (ownFrom_below (Nat.le_refl _) (by omega)) (ownFrom_pure _ _))))))
          (fun N c => OwnFrom.and (ownFrom_below (Nat.le_refl _) (by omega)) (ownFrom_stop _ _ _ _ _ _ _))
          (fun N pre W h => ⟨h.2.2.2.1.1, fun k h1 h2 => h.2.2.2.1.2 k h2 (hSi k h1)⟩)
          (fun N => ⟨bP3, bF3, bR3, ⟨Nat.le_refl _, fun _ _ _ => rfl⟩, hBw3, fun _ => by simp; omega, fun h => by simpa using h⟩)
          (fun x => { tmps := #[.agg #[.bool o.num, .bool o.fold, .bool o.bls, .bool o.rev, .int .i64 o.fr, .int .i64 o.to, .int .u8 (o.sep.toNat : Int)], .string s, .pointer (some ⟨w.heap.size, 0, none⟩), .pointer (some ⟨w.heap.size + 1, 0, none⟩), .pointer (some ⟨w.heap.size + 1 + 1, 0, none⟩), .pointer (some ⟨pl, 0, none⟩), .pointer (some ⟨fl, 0, none⟩), .int .i64 (x.1 : Int), .int .i64 (x.2 : Int), .agg #[.bool o.num, .bool o.fold, .bool o.bls, .bool o.rev, .int .i64 o.fr, .int .i64 o.to, .int .u8 (o.sep.toNat : Int)], .bool true, .bool false, .pointer (some ⟨w.heap.size, 4, none⟩), .int .i64 o.fr, .bool false, undef, .string s, .int .i64 (s.size : Int), .string s, .pointer (some ⟨w.heap.size, 6, none⟩), .int .u8 (o.sep.toNat : Int), .func (.func gf) #[] lb, .int .i64 (x.1 : Int), .int .i64 (x.2 : Int), undef, undef, undef, undef, undef, undef, undef, undef, undef, undef, undef, undef, undef, undef, undef, undef, undef, undef, undef, undef, undef], defers := [] }) ?assign ?body ?done ?stop
        case assign =>
          intro m l x W K hK
          simp only [enc2]
          gi_wp2
          exact hK
        case body =>
          clear bP3 bF3 bR3 hBw3 heg HIT
          rintro m l N pre ⟨a, b⟩ W ⟨hP, hF, hR, hSm, hB, hto1, hto2⟩ hpre hN1 hN2
          have HS := hide hSm
          have HB := hide hB
          obtain ⟨rst, hrst⟩ := hpre
          have hpl2 : places o s.data.toList = pre ++ (a, b) :: rst := by rw [← hrst]; simp
          have hle := places_le hpl2
          have hle2 : b ≤ s.size := hle.2
          have hle1 : a ≤ b := hle.1
          have hbO : W.heap[w.heap.size]? = some (.cells oc 23 (0, 0)) := (hSm.2 _ (by omega) hSo).trans bO3
          have hbS : Boxed W (w.heap.size + 1) 9 (.string s) := (hSm.2 _ (by omega) hSs).trans bS3
          have hfle : fromAt s.size o.fr.toNat pre ≤ s.size := fromAt_le _ _ o s.data.toList (hrst.symm.trans (List.append_assoc _ _ _)) rfl
          have hsn := fromAt_snoc (n := s.size) pre (a, b) (show 0 < o.fr.toNat by omega)
          obtain ⟨n, hn⟩ : ∃ n, n = pre.length := ⟨_, rfl⟩
          rw [← hn] at hP hto1 hto2 hsn
          have hnb : (n : Int) ≤ 1000 := by
            by_cases h : o.to = 0
            · have := hto1 h; omega
            · have := hto2 (by omega); omega
          have hc1 := hP.cell
          have hf1 := hP.frozen
          have oP : Boxed (W.setCell ⟨pl, 0, none⟩ (.int .i64 ((n : Int) + 1))) pl 3 (.int .i64 ((n : Int) + 1)) := hP.set _
          have oF := hF.other (fun h => hq.2.2.2.2 h.symm) (.int .i64 ((n : Int) + 1)) (B' := pl)
          have oR := hR.other (show w.heap.size + 2 ≠ pl by omega) (.int .i64 ((n : Int) + 1))
          have oS := hbS.other (show w.heap.size + 1 ≠ pl by omega) (.int .i64 ((n : Int) + 1))
          have oO := (Below.heap_setCell W ⟨pl, 0, none⟩ (.int .i64 ((n : Int) + 1)) w.heap.size (by simp; omega)).trans hbO
          have oSm := hide (same_set hSp hSm (.int .i64 ((n : Int) + 1)))
          have oB := hide (hB.setCell (p := ⟨pl, 0, none⟩) (show w.heap.size ≤ pl by omega) (.int .i64 ((n : Int) + 1)))
          have oSt : Rng.Stays W3.heap.size N W (W.setCell ⟨pl, 0, none⟩ (.int .i64 ((n : Int) + 1))) := Rng.Stays.set _ _ _ (by omega)
          obtain ⟨W4, hW4⟩ : ∃ W4, W4 = W.setCell ⟨pl, 0, none⟩ (.int .i64 ((n : Int) + 1)) := ⟨_, rfl⟩
          rw [← hW4] at oP oF oR oS oO oSm oB oSt
          have HW4 := hide hW4
          have HST := hide oSt
          clear hW4 oSt hP hF hR hbS hbO HS HB hSm hB hrst
          have d1 := oP.cell
          have d2 : W4.cell? ⟨w.heap.size, 4, none⟩ = some (.int .i64 o.fr) := (cell_of_row _ _ _ _ _ _ oO).trans hoc4
          have d3 : W4.cell? ⟨w.heap.size, 5, none⟩ = some (.int .i64 o.to) := (cell_of_row _ _ _ _ _ _ oO).trans hoc5
          have d4 := oF.cell
          have d5 := oS.cell
          have d6 := oR.cell
          have d7 := oR.frozen
          have d8 := oF.frozen
          have hW4' := (unhide HW4).symm
          by_cases hA : (n : Int) + 1 = o.fr
          · have tA : ((n : Int) + 1 == o.fr) = true := by simpa using hA
            have hFx : fromAt s.size o.fr.toNat (pre ++ [(a, b)]) = a := by rw [hsn, if_pos (by omega)]
            have e1 := oF.set (.int .i64 (a : Int))
            have e2 := oP.other (fun h => hq.2.2.2.2 h) (.int .i64 (a : Int)) (B' := fl)
            have e3 := oR.other (show w.heap.size + 2 ≠ fl by omega) (.int .i64 (a : Int))
            have e4 := oS.other (show w.heap.size + 1 ≠ fl by omega) (.int .i64 (a : Int))
            have e5 := (Below.heap_setCell W4 ⟨fl, 0, none⟩ (.int .i64 (a : Int)) w.heap.size (by simp; omega)).trans oO
            have e6 := hide (same_set hSf (unhide oSm) (.int .i64 (a : Int)))
            have e7 := hide ((unhide oB).setCell (p := ⟨fl, 0, none⟩) (show w.heap.size ≤ fl by omega) (.int .i64 (a : Int)))
            have e8 : Hid (Rng.Stays W3.heap.size N W (W4.setCell ⟨fl, 0, none⟩ (.int .i64 (a : Int)))) := (unhide HST).trans (Rng.Stays.set _ _ _ (by omega))
            obtain ⟨W5, hW5⟩ : ∃ W5, W4.setCell ⟨fl, 0, none⟩ (.int .i64 (a : Int)) = W5 := ⟨_, rfl⟩
            rw [hW5] at e1 e2 e3 e4 e5 e6 e7 e8
            have g1 := e2.cell
            have g3 : W5.cell? ⟨w.heap.size, 5, none⟩ = some (.int .i64 o.to) := (cell_of_row _ _ _ _ _ _ e5).trans hoc5
            have g4 := e1.cell
            have g5 := e4.cell
            have g6 := e3.cell
            have g7 := e3.frozen
            clear hsn hto1 hto2 hSp hSf hSr hSo hSs hSi hoc4 hoc5 hoc6 oSm oB oO oR oF oP oS d5 d6 d7 HW4 HST bS3 bO3 hle
            by_cases hT0 : o.to = 0
            · have hkb := hide (key_brk (unhide HOK) (by omega) hT0 hpl2 (by rw [← hn]; exact hA))
              rw [hT0] at g3
              clear hT0 hpl2 hFx hn hA
              gi_wp2
              exact ⟨unhide e8, unhide e7, .inr ⟨rfl, a, e1, e3, unhide e6, unhide hkb, by omega⟩⟩
            · have tT0 : (o.to == 0) = false := by simpa using hT0
              by_cases hTo : (n : Int) + 1 = o.to
              · have tTo : ((n : Int) + 1 == o.to) = true := by simpa using hTo
                have hkr := (key_ret (unhide HOK) (by omega) (by omega) hpl2 (by rw [← hn]; exact hTo)).1
                rw [show s.data.toList.length = s.size from rfl, hFx] at hkr
                have HKR : Hid (Ln.bt (key o s.data.toList) = s.extract a b) := by
                  show _ = _
                  rw [Ln.bt_extract, hkr]
                clear hkr hpl2 hFx hn hTo hA
                gi_wp2
                exact ⟨(unhide e8).trans (Rng.Stays.set _ _ _ (by omega)), (unhide e7).setCell (p := ⟨w.heap.size + 2, 0, none⟩) (by simp) _, .inl ⟨rfl, by rw [unhide HKR]; exact e3.set _⟩⟩
              · have tTo : ((n : Int) + 1 == o.to) = false := by simpa using hTo
                have hlen : ((pre ++ [(a, b)]).length : Int) = (n : Int) + 1 := by rw [List.length_append, ← hn]; simp
                have HL := hide hlen
                have HF := hide hFx
                have hto3 : (n : Int) + 1 < o.to := by
                  have := ok_to (unhide HOK) (by omega); omega
                clear hlen hFx hn hpl2 hA
                gi_wp2
                refine ⟨unhide e8, by rw [unhide HL]; exact e2, by rw [unhide HF]; exact e1, e3, unhide e6, unhide e7, fun h => absurd h hT0, fun _ => by rw [unhide HL]; exact hto3⟩
          · have tA : ((n : Int) + 1 == o.fr) = false := by simpa using hA
            have hFx : fromAt s.size o.fr.toNat (pre ++ [(a, b)]) = fromAt s.size o.fr.toNat pre := by rw [hsn, if_neg (by omega)]
            obtain ⟨F, hF0⟩ : ∃ F, F = fromAt s.size o.fr.toNat pre := ⟨_, rfl⟩
            rw [← hF0] at hFx d4 oF hfle
            clear hF0 hsn
            by_cases hTo : (n : Int) + 1 = o.to
            · have tTo : ((n : Int) + 1 == o.to) = true := by simpa using hTo
              have hkr := key_ret (unhide HOK) (by omega) (by omega) hpl2 (by rw [← hn]; exact hTo)
              rw [show s.data.toList.length = s.size from rfl, hFx] at hkr
              have HKR : Hid (Ln.bt (key o s.data.toList) = s.extract F b) := by
                show _ = _
                rw [Ln.bt_extract, hkr.1]
              have hFb : F ≤ b := hkr.2
              clear hkr hpl2 hFx hn hTo hle
              gi_wp2
              exact ⟨(unhide HST).trans (Rng.Stays.set _ _ _ (by omega)), (unhide oB).setCell (p := ⟨w.heap.size + 2, 0, none⟩) (by simp) _, .inl ⟨rfl, by rw [unhide HKR]; exact oR.set _⟩⟩
            · have tTo : ((n : Int) + 1 == o.to) = false := by simpa using hTo
              have hlen : ((pre ++ [(a, b)]).length : Int) = (n : Int) + 1 := by rw [List.length_append, ← hn]; simp
              have HL := hide hlen
              have HF := hide hFx
              have hto3 : 0 < o.to → (n : Int) + 1 < o.to := fun h => by have := hto2 h; omega
              have hto4 : o.to = 0 → (n : Int) + 1 < o.fr := fun h => by have := hto1 h; omega
              clear hlen hFx hn hpl2 hle
              have H3 := hide hto3
              have H4 := hide hto4
              clear hto1 hto2 hto3 hto4
              gi_wp2
              refine ⟨unhide HST, by rw [unhide HL]; exact oP, by rw [unhide HF]; exact oF, oR, unhide oSm, unhide oB, fun h => by rw [unhide HL]; exact unhide H4 h, fun h => by rw [unhide HL]; exact unhide H3 h⟩
        case done =>
          rintro N W _ ⟨hP, hF, hR, hSm, hB, hto1, hto2⟩ hD
          have hkd := hide (key_done (unhide HOK) (by omega) hto1 hto2)
          have hfle : fromAt s.size o.fr.toNat (places o s.data.toList) ≤ s.size := fromAt_le _ _ o s.data.toList (List.append_nil _).symm rfl
          have hbS : Boxed W (w.heap.size + 1) 9 (.string s) := (hSm.2 _ (by omega) hSs).trans bS3
          obtain ⟨F, hF0⟩ : ∃ F, F = fromAt s.size o.fr.toNat (places o s.data.toList) := ⟨_, rfl⟩
          rw [show s.data.toList.length = s.size from rfl] at hkd
          rw [← hF0] at hkd hF hfle
          clear hF0
          have hc1 := hF.cell
          have hc2 := hbS.cell
          have hc3 := hR.cell
          have hc4 := hR.frozen
          have HKR : Hid (Ln.bt (key o s.data.toList) = s.extract F s.size) := by
            show _ = _
            rw [unhide hkd, Ln.bt_extract, List.take_of_length_le (by rw [List.length_drop]; exact Nat.le_refl _)]
          have hB9 := hide (hB.setCell (p := ⟨w.heap.size + 2, 0, none⟩) (by simp) (.string (s.extract F s.size)))
          have hR9 := hR.set (.string (s.extract F s.size))
          have hD9 := (Below.heap_setCell W ⟨w.heap.size + 2, 0, none⟩ (.string (s.extract F s.size)) W3.heap.size (by simp; omega)).trans hD
          have HSm := hide hSm
          have HD := hide hD
          clear hkd hB hSm hD hto1 hto2 hP
          gi_wp2
          refine ⟨by simp, .inl ⟨_, _, rfl, run_takeDeferred hD9, ?_⟩⟩
          have hR2 := fun o' => boxed_put (o' := o') hR9 hD9 rfl
          exact ⟨_, res_key _ _ _ rfl (hR2 _), by rw [unhide HKR], (unhide hB9).trans (belowK_b (w := w) (Nat.le_refl _) _ _ _ _ (by omega) hD9 rfl rfl)⟩
        case stop =>
          rintro N c pre W _ _ ⟨hB, hst⟩ hD
          rcases hst with ⟨rfl, hR⟩ | ⟨rfl, F, hF, hR, hSm, hkd0, hfle⟩
          · gi_wp2
            refine ⟨by simp, .inl ⟨_, _, rfl, run_takeDeferred hD, ?_⟩⟩
            have hR2 := fun o' => boxed_put (o' := o') hR hD rfl
            exact ⟨_, res_key _ _ _ rfl (hR2 _), rfl, hB.trans (belowK_b (w := w) (Nat.le_refl _) _ _ _ _ (by omega) hD rfl rfl)⟩
          · have hkd := hide hkd0
            have hbS : Boxed W (w.heap.size + 1) 9 (.string s) := (hSm.2 _ (by omega) hSs).trans bS3
            have hc1 := hF.cell
            have hc2 := hbS.cell
            have hc3 := hR.cell
            have hc4 := hR.frozen
            have HKR : Hid (Ln.bt (key o s.data.toList) = s.extract F s.size) := by
              show _ = _
              rw [unhide hkd, Ln.bt_extract, List.take_of_length_le (by rw [List.length_drop]; exact Nat.le_refl _)]
            have hB9 := hide (hB.setCell (p := ⟨w.heap.size + 2, 0, none⟩) (by simp) (.string (s.extract F s.size)))
            have hR9 := hR.set (.string (s.extract F s.size))
            have hD9 := (Below.heap_setCell W ⟨w.heap.size + 2, 0, none⟩ (.string (s.extract F s.size)) W3.heap.size (by simp; omega)).trans hD
            have HSm := hide hSm
            have HD := hide hD
            clear hkd hB hSm hD hkd0
            gi_wp2
            refine ⟨by simp, .inl ⟨_, _, rfl, run_takeDeferred hD9, ?_⟩⟩
            have hR2 := fun o' => boxed_put (o' := o') hR9 hD9 rfl
            exact ⟨_, res_key _ _ _ rfl (hR2 _), by rw [unhide HKR], (unhide hB9).trans (belowK_b (w := w) (Nat.le_refl _) _ _ _ _ (by omega) hD9 rfl rfl)⟩
end Go.Proofs.YtmpppdbomdepoaaGreatDoor.Ky
