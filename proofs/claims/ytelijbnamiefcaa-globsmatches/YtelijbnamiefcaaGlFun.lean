/- What same, within and matcher answer: functions that say which bytes a thing matches. -/
import Derived.Test.YtelijbnamiefcaaGlArr
namespace Go.Proofs.Ytelijbnamiefcaa.Gl
open Go.RowKit

def okT (e : TypeId) : Bool := e == 5 || e == 4 || e == 47
/-- blocks of bytes, of truths and of sets of bytes stay as they are -/
def Kt (w w' : World) : Prop := w.heap.size ≤ w'.heap.size ∧ ∀ (k : Nat) (c : Array Value) (e : TypeId) (z : Nat × Nat), w.heap[k]? = some (Obj.cells c e z) → okT e = true → w'.heap[k]? = some (Obj.cells c e z)
theorem Kt.refl (w : World) : Kt w w := ⟨Nat.le_refl _, fun _ _ _ _ h _ => h⟩
theorem Kt.trans {x y z : World} (h : Kt x y) (h' : Kt y z) : Kt x z := ⟨Nat.le_trans h.1 h'.1, fun k c e u ha hk => h'.2 k c e u (h.2 k c e u ha hk) hk⟩
theorem Kt.of {w w' : World} (h : Below w.heap.size w w') : Kt w w' := ⟨h.size, fun k _ _ _ ha _ => (h.block k (Array.getElem?_eq_some_iff.1 ha).1).trans ha⟩
theorem Kt.cell {w w' : World} (h : Kt w w') {k : Nat} {c : Array Value} {e : TypeId} {z : Nat × Nat} (ha : w.heap[k]? = some (.cells c e z)) (hk : okT e = true) (i : Nat) : w'.cell? ⟨k, i, none⟩ = c[i]? := cell_of_row _ _ _ _ _ _ (h.2 k c e z ha hk)
/-- f says p of every byte, in every world that keeps what is kept -/
def Cls (w : World) (f : Value) (p : UInt8 → Bool) : Prop :=
  ∃ id cap, f = .func (.func id) #[] cap ∧ (∀ args w', (callFunc id args).run Try.prog w' = .ok (.enter id args) w') ∧
    ∀ w' (c : UInt8), Kt w w' → Calls Try.prog id (#[.int .u8 (c.toNat : Int)] ++ cap) w' fun e w'' => e = .returned (.bool (p c)) ∧ ∃ q, w'' = w'.drewN q
theorem Cls.kt {w w' : World} {f : Value} {p : UInt8 → Bool} (h : Cls w f p) (hb : Kt w w') : Cls w' f p := by
  obtain ⟨id, cap, h1, h2, h3⟩ := h
  exact ⟨id, cap, h1, h2, fun w'' c hb' => h3 w'' c (hb.trans hb')⟩
theorem Cls.eq {w : World} {f : Value} {p p' : UInt8 → Bool} (h : Cls w f p) (e : ∀ c, p c = p' c) : Cls w f p' := by rw [← funext e]; exact h

theorem same1_any (a c : UInt8) (x : Nat) (w : World) (ha : w.cell? ⟨x, 0, none⟩ = some (.int .u8 a.toNat)) :
    Calls Try.prog 43 #[.int .u8 c.toNat, .pointer (some ⟨x, 0, none⟩)] w fun e w' => e = .returned (.bool (decide (c = a))) ∧ w' = w := by
  go_enter Try.func43, Try.ntmps43
  go_wp2
  go_ret
  refine ⟨congrArg (fun b => Ending.returned (.bool b)) ?_, rfl⟩
  show ((c.toNat : Int) == (a.toNat : Int)) = _
  by_cases h : c = a
  · simp [h]
  · rw [decide_eq_false h, beq_eq_false_iff_ne]
    exact fun e => h (u8_eq e)
theorem same_any (a : UInt8) (w : World) :
    Calls Try.prog 37 #[.int .u8 a.toNat] w fun e w' => (∃ f, e = .returned f ∧ Cls w' f (fun c => decide (c = a))) ∧ Below w.heap.size w w' := by
  have hmf : ∀ (fn : Fn) (first cap : Array Value) (w : World), (Instr.makeFunc fn first cap).run Try.prog w = .ok (.func fn first cap) w := fun _ _ _ _ => rfl
  go_enter Try.func37, Try.ntmps37
  go_wp2
  go_ret
  refine ⟨⟨_, rfl, _, _, rfl, ?_, ?_⟩, ?_⟩
  · intro args w'; simp [go_sem]
  · intro w' c hb
    exact (same1_any a c _ w' (hb.cell (heap_alloc_new w (.cells #[.int .u8 (a.toNat : Int)] 5)) rfl 0)).mono fun e w'' h => ⟨h.1, 0, h.2⟩
  · exact (Below.refl _ _).alloc (Nat.le_refl _) _
theorem matcher1_any (w : World) (c : UInt8) :
    Calls Try.prog 39 #[.int .u8 c.toNat] w fun e w' => e = .returned (.bool true) ∧ w' = w := by
  go_enter Try.func39, Try.ntmps39
  go_wp2
  go_ret
  exact ⟨rfl, rfl⟩
set_option maxHeartbeats 400000 in
theorem within1_any (p : UInt8 → Bool) (b : Bool) (c : UInt8) (x y : Nat) (w : World) (hx : Arr w x 47 (vb p)) (hy : w.cell? ⟨y, 0, none⟩ = some (.bool b)) :
    Calls Try.prog 46 #[.int .u8 c.toNat, .pointer (some ⟨x, 0, none⟩), .pointer (some ⟨y, 0, none⟩)] w fun e w' => e = .returned (.bool (p c != b)) ∧ ∃ q, w' = w.drewN q := by
  have hc : w.cell? ⟨x, c.toNat, none⟩ = some (.bool (p c)) := hx.cell c
  have h256 : (c.toNat : Int) < 256 := by have := c.toNat_lt; omega
  have HX := hide hx
  clear hx
  generalize p c = pc at *
  go_enter Try.func46, Try.ntmps46
  go_wp2
  go_quiet (fail)
  rename_i nq
  go_wp2
  go_ret
  exact ⟨rfl, nq, rfl⟩
set_option maxHeartbeats 400000 in
set_option maxRecDepth 100000 in
theorem within_any (s : ByteArray) (w : World) (hs : s.size ≤ 5000) :
    Calls Try.prog 38 #[.string s] w fun e w' => (∃ f, e = .returned f ∧ Cls w' f (withinP (bs s))) ∧ Below w.heap.size w w' := by
  have hmf : ∀ (fn : Fn) (first cap : Array Value) (w : World), (Instr.makeFunc fn first cap).run Try.prog w = .ok (.func fn first cap) w := fun _ _ _ _ => rfl
  obtain ⟨hzero, hinf⟩ := zero_of_info Try.infoArrB
  obtain ⟨z, hz⟩ : ∃ z, z = tab zb := ⟨_, rfl⟩
  rw [← hz] at hzero
  have HI := hide hinf
  have HZ := hide hz
  clear hz hinf
  have hC := fun W => cutPrefix_b s { data := #[33] } (bang (bs s)) W (by omega) (by decide) (pre_bang (bs s))
  obtain ⟨r, hr⟩ : ∃ r, r = (if bang (bs s) = true then s.extract 1 s.size else s) := ⟨_, rfl⟩
  have hrs : r.size ≤ 5000 := by
    rw [hr]; split
    · rw [size_from]; omega
    · exact hs
  have hW : Hid (∀ c, withinP (bs s) c = (ins (bs r) c != bang (bs s))) := fun c => by
    unfold withinP; rw [hr]; unfold unbang
    cases h : bang (bs s) <;> simp [bs_from]
  have HC : Hid (∀ W, Calls Try.prog 44 #[.string s, .string { data := #[33] }] W fun e w' => e = .returned (.tuple #[.string r, .bool (bang (bs s))]) ∧ w' = W) := fun W => by rw [hr]; exact hC W
  clear hC hr
  have HN := hide (fun W => insideBytes_any r W hrs)
  generalize bang (bs s) = b at *
  obtain ⟨A, hA⟩ : ∃ A, A = tab (vb (ins (bs r))) := ⟨_, rfl⟩
  rw [← hA] at HN
  have HA := hide hA
  clear hA
  go_enter Try.func38, Try.ntmps38
  go_wp2_with (first | (go_at_call 44; refine (unhide HC _).mono ?_; rintro e w1 ⟨rfl, rfl⟩))
  refine (unhide HN _).mono ?_
  rintro e w2 ⟨rfl, hb2⟩
  have hn1 : Hid (w2.heap[w1.heap.size]? = some (.cells #[.bool b] 4 (0, 0))) := (hb2.block _ (by simp)).trans (heap_alloc_new w1 _)
  have hB2 : Hid (Below w1.heap.size w1 w2) := ((Below.refl _ _).alloc (Nat.le_refl _) _).trans (hb2.mono (by simp))
  have hlt : Hid (w1.heap.size < w2.heap.size) := by have := hb2.size; simp at this; exact this
  clear hb2 HN HC
  have hR0 : Hid (Arr (w2.alloc (.cells z 47)) w2.heap.size 47 zb) := by
    rw [unhide HZ]
    exact heap_alloc_new w2 _
  have hst := hide (run_store_arr (unhide hR0) (c' := tab (vb (ins (bs r)))) (by rw [tab_size]; exact unhide HI) (by rw [tab_size, tab_size]) (tab_one _ (fun _ => rfl)))
  have hb9 : Hid (Below w1.heap.size w1 ((w2.alloc (.cells z 47)).setRow w2.heap.size (tab (vb (ins (bs r)))))) := below_setRow ((unhide hB2).alloc (unhide hB2).size _) (unhide hB2).size _
  have hn9 : Hid (((w2.alloc (.cells z 47)).setRow w2.heap.size (tab (vb (ins (bs r))))).heap[w1.heap.size]? = some (.cells #[.bool b] 4 (0, 0))) := by
    show _ = _
    rw [setRow_other _ _ _ _ (by have := unhide hlt; omega)]
    exact (Below.heap_alloc _ _ _ (unhide hlt)).trans (unhide hn1)
  rw [← unhide HA] at hst hb9 hn9
  generalize hw9 : (w2.alloc (.cells z 47)).setRow w2.heap.size A = w9 at *
  have hA9 : Hid (Arr w9 w2.heap.size 47 (vb (ins (bs r)))) := by rw [← hw9, unhide HA]; exact (unhide hR0).setRow _
  clear hw9 hR0 hn1 hB2
  go_wp2_with (refine wpList_store_arr _ rfl _ _ 47 rfl _ rfl _ rfl _ (by exact unhide hst) ?_)
  go_ret
  refine ⟨⟨_, rfl, _, _, rfl, ?_, ?_⟩, unhide hb9⟩
  · intro args w'; simp [go_sem]
  · intro w' c hb
    rw [unhide hW]
    exact within1_any (ins (bs r)) b c _ _ w' (hb.2 _ _ _ _ (unhide hA9) rfl) (hb.cell (unhide hn9) rfl 0)
set_option maxHeartbeats 400000 in
set_option maxRecDepth 100000 in
theorem matcher_any (k : Nat) (t : ByteArray) (w : World) (hs : t.size ≤ 5000) (h4 : k ≤ 4) (h1 : 1 ≤ t.size) (h2 : k = 2 ∨ k = 3 → 2 ≤ t.size) :
    Calls Try.prog 30 #[.int .u8 k, .string t] w fun e w' => (∃ f, e = .returned f ∧ Cls w' f (predP k (bs t))) ∧ Below w.heap.size w w' := by
  have at0 : (bs t).getD 0 0 = t[0] := by rw [bs_one t (by omega)]; rfl
  by_cases hk2 : k = 2
  · subst hk2
    have hl : 2 ≤ t.size := h2 (.inl rfl)
    have at1 : (bs t).getD 1 0 = t[1] := by rw [List.getD_eq_getElem?_getD, List.getElem?_eq_getElem (by rw [bs_len]; omega)]; rfl
    have HS := hide (fun W => same_any t[1] W)
    have HP : Hid (∀ c, decide (c = t[1]) = predP 2 (bs t) c) := fun c => by unfold predP; rw [if_pos rfl, at1]
    clear at0 at1 h2 h4 h1
    go_enter Try.func30, Try.ntmps30
    go_wp2_with fail
    refine (unhide HS _).mono ?_
    rintro e w1 ⟨⟨f, rfl, hf⟩, hb⟩
    have HFF := hide (hf.eq (unhide HP))
    obtain ⟨_, _, rfl, _⟩ := hf
    clear HS HP
    go_wp2_with fail
    go_ret
    exact ⟨⟨_, rfl, unhide HFF⟩, hb⟩
  · by_cases hk3 : k = 3
    · subst hk3
      have hl : 2 ≤ t.size := h2 (.inr rfl)
      have hss : (t.extract 1 (t.size - 1)).size ≤ 5000 := by rw [← bs_len, bs_ext, List.length_take, List.length_drop, bs_len]; omega
      have HS := hide (fun W => within_any (t.extract 1 (t.size - 1)) W hss)
      have HP : Hid (∀ c, withinP (bs (t.extract 1 (t.size - 1))) c = predP 3 (bs t) c) := fun c => by
        unfold predP; rw [if_neg (by decide), if_pos rfl, bs_ext, bs_len, Nat.sub_sub]
      clear at0 h2 h4 h1 hss
      have hj : (t.size : Int) - 1 = ((t.size - 1 : Nat) : Int) := by omega
      obtain ⟨m, hm⟩ : ∃ m, m = t.size - 1 := ⟨_, rfl⟩
      have hm1 : 1 ≤ m := by omega
      have hm2 : m ≤ t.size := by omega
      rw [← hm] at hj HS HP
      clear hm
      go_enter Try.func30, Try.ntmps30
      go_wp2_with fail
      refine (unhide HS _).mono ?_
      rintro e w1 ⟨⟨f, rfl, hf⟩, hb⟩
      have HFF := hide (hf.eq (unhide HP))
      obtain ⟨_, _, rfl, _⟩ := hf
      clear HS HP
      go_wp2_with fail
      go_ret
      exact ⟨⟨_, rfl, unhide HFF⟩, hb⟩
    · by_cases hk4 : k = 4
      · subst hk4
        have HS := hide (fun W => same_any t[0] W)
        have HP : Hid (∀ c, decide (c = t[0]) = predP 4 (bs t) c) := fun c => by unfold predP; rw [if_neg (by decide), if_neg (by decide), if_pos rfl, at0]
        clear at0 h2 h4 hk2 hk3
        go_enter Try.func30, Try.ntmps30
        go_wp2_with fail
        refine (unhide HS _).mono ?_
        rintro e w1 ⟨⟨f, rfl, hf⟩, hb⟩
        have HFF := hide (hf.eq (unhide HP))
        obtain ⟨_, _, rfl, _⟩ := hf
        clear HS HP
        go_wp2_with fail
        go_ret
        exact ⟨⟨_, rfl, unhide HFF⟩, hb⟩
      · have HP : Hid (∀ c, true = predP k (bs t) c) := fun c => by unfold predP; rw [if_neg hk2, if_neg hk3, if_neg hk4]
        have n2 : ¬ (k : Int) = 2 := by omega
        have n3 : ¬ (k : Int) = 3 := by omega
        have n4 : ¬ (k : Int) = 4 := by omega
        clear at0 h2 hk2 hk3 hk4
        go_enter Try.func30, Try.ntmps30
        go_wp2_with fail
        go_ret
        refine ⟨⟨_, rfl, _, _, rfl, ?_, ?_⟩, Below.refl _ _⟩
        · intro args w'; simp [go_sem]
        · intro w' c _
          rw [← unhide HP]
          exact (matcher1_any w' c).mono fun e w'' h => ⟨h.1, 0, h.2⟩
end Go.Proofs.Ytelijbnamiefcaa.Gl
