/- PermsMore walked. -/
import Derived.Test.YtngljliollbcnaaPmEachW
namespace Go.Proofs.Ytngljliollbcnaa.Pm
open Go.RowKit Go.Proofs.Ytngljliollbcnaa.Cu Go.Proofs.Ytngljliollbcnaa.Tr

theorem or512 (m o : Nat) : bits .or .i64 ((m : Int) % 512) ((o : Int) % 512) = (((m % 512) ||| (o % 512) : Nat) : Int) := by
  have := Mo.bits_or_nat (m % 512) (o % 512) (by omega) (by omega)
  rw [← this, Int.natCast_emod, Int.natCast_emod]; rfl
theorem sub_or : ∀ a, a < 8 → ∀ b, b < 8 → ∀ c, c < 8 → sub a b = true → sub a (b ||| c) = true := by decide +kernel
theorem anyX_nat (m : Nat) (h : m < 512) : anyX (m : Int) = (m &&& 73 != 0) := by
  unfold anyX
  have := Mo.bits_and_nat m 73 (by omega) (by decide)
  rw [show ((73 : Nat) : Int) = 73 from rfl] at this
  rw [this, Bool.eq_iff_iff]
  simp only [bne_iff_ne, ne_eq]
  omega
theorem or_div8 (m o : Nat) : (m ||| o) / 8 = m / 8 ||| o / 8 := by
  have := Nat.shiftRight_or_distrib (a := m) (b := o) (i := 3)
  simpa [Nat.shiftRight_eq_div_pow] using this
theorem or_div64 (m o : Nat) : (m ||| o) / 64 = m / 64 ||| o / 64 := by
  have := Nat.shiftRight_or_distrib (a := m) (b := o) (i := 6)
  simpa [Nat.shiftRight_eq_div_pow] using this
theorem or_mod8 (m o : Nat) : (m ||| o) % 8 = m % 8 ||| o % 8 := Nat.or_mod_two_pow (n := 3)
theorem more_fact (kd : UInt8) (m o u g : Nat) (e : Ev) (hm : m < 512) (ho : o < 512) (what : Int)
    (h : mayP ⟨kd, (m : Int), u, g, 0, 0, [], ⟨#[]⟩, [], 0⟩ e what = true) : mayP ⟨kd, ((m ||| o : Nat) : Int), u, g, 0, 0, [], ⟨#[]⟩, [], 0⟩ e what = true := by
  have hmo : m ||| o < 512 := Nat.or_lt_two_pow (n := 9) hm ho
  unfold mayP at h ⊢
  by_cases h1 : what < 1 ∨ 7 < what ∨ kd = 0
  · simp only [if_pos h1] at h; cases h
  · simp only [if_neg h1] at h ⊢
    by_cases hu : e.user = 0
    · simp only [if_pos hu] at h ⊢
      unfold passP at h ⊢
      simp only [anyX_nat m hm, anyX_nat _ hmo] at h ⊢
      simp only [Bool.or_eq_true] at h ⊢
      rcases h with h | h | h
      · exact .inl h
      · exact .inr (.inl h)
      · refine .inr (.inr ?_)
        rw [Nat.and_or_distrib_right]
        simp only [bne_iff_ne, ne_eq, Nat.or_eq_zero_iff] at h ⊢
        exact fun x => h x.1
    · simp only [if_neg hu] at h ⊢
      have ha : what.toNat < 8 := by omega
      unfold bitsP at h ⊢
      simp only at h ⊢
      by_cases c1 : e.user = u
      · simp only [if_pos c1] at h ⊢
        have e1 : (((m ||| o : Nat) : Int) / 64 % 8).toNat = (m / 64 % 8) ||| (o / 64 % 8) := by rw [← or_mod8, ← or_div64]; omega
        have e2 : ((m : Int) / 64 % 8).toNat = m / 64 % 8 := by omega
        rw [e1]; rw [e2] at h
        exact sub_or _ ha _ (by omega) _ (by omega) h
      · simp only [if_neg c1] at h ⊢
        by_cases c2 : e.group = g
        · simp only [if_pos c2] at h ⊢
          have e1 : (((m ||| o : Nat) : Int) / 8 % 8).toNat = (m / 8 % 8) ||| (o / 8 % 8) := by rw [← or_mod8, ← or_div8]; omega
          have e2 : ((m : Int) / 8 % 8).toNat = m / 8 % 8 := by omega
          rw [e1]; rw [e2] at h
          exact sub_or _ ha _ (by omega) _ (by omega) h
        · simp only [if_neg c2] at h ⊢
          have e1 : (((m ||| o : Nat) : Int) % 8).toNat = (m % 8) ||| (o % 8) := by rw [← or_mod8]; omega
          have e2 : ((m : Int) % 8).toNat = m % 8 := by omega
          rw [e1]; rw [e2] at h
          exact sub_or _ ha _ (by omega) _ (by omega) h
/-- somebody and two nodes in their boxes -/
structure Pq (w W : World) (N1 N2 N3 : Nat) (a b : Array Value) (e : Ev) : Prop where
  below : Below w.heap.size w W
  env : W.heap[N1]? = some (.cells (ea e) 28)
  node : W.heap[N2]? = some (.cells a 26)
  other : W.heap[N3]? = some (.cells b 26)
theorem Pq.step {w W W' : World} {N1 N2 N3 : Nat} {a b : Array Value} {e : Ev} (h : Pq w W N1 N2 N3 a b e) (hb : Below W.heap.size W W') : Pq w W' N1 N2 N3 a b e :=
  ⟨h.below.trans (hb.mono h.below.size), (hb.block _ (Array.getElem?_eq_some_iff.1 h.env).1).trans h.env, (hb.block _ (Array.getElem?_eq_some_iff.1 h.node).1).trans h.node, (hb.block _ (Array.getElem?_eq_some_iff.1 h.other).1).trans h.other⟩
theorem pq_new (w : World) (o : Obj) (e : Ev) (a b : Array Value) : Pq w ((((w.alloc o).alloc (.cells (ea e) 28)).alloc (.cells a 26)).alloc (.cells b 26)) (w.heap.size + 1) (w.heap.size + 1 + 1) (w.heap.size + 1 + 1 + 1) a b e := by
  have h := pr_new w o e a
  have k := heap_alloc_new (((w.alloc o).alloc (.cells (ea e) 28)).alloc (.cells a 26)) (.cells b 26)
  have hb : Below (((w.alloc o).alloc (.cells (ea e) 28)).alloc (.cells a 26)).heap.size (((w.alloc o).alloc (.cells (ea e) 28)).alloc (.cells a 26)) ((((w.alloc o).alloc (.cells (ea e) 28)).alloc (.cells a 26)).alloc (.cells b 26)) := b1 _ _
  have h' := h.step hb
  rw [World.size_alloc, World.size_alloc, World.size_alloc] at k
  exact ⟨h'.below, h'.env, h'.node, k⟩
set_option maxRecDepth 100000 in
set_option maxHeartbeats 1000000 in
theorem more_walk (k m o u g : Nat) (hk : k < 256) (hm : m < 65536) (ho : o < 65536) (hu : u < 65536) (hg : g < 65536) (e : Ev) (w : World) :
    Calls Try.prog 6 #[.agg #[.int .u8 k, .int .u16 m, .int .u16 o, .int .u16 u, .int .u16 g, .int .i64 e.user, .int .i64 e.group, .int .i64 e.mask, .int .i64 e.dir]] w fun r w' => r = .returned (.bool true) ∧ Below w.heap.size w w' := by
  have HL := hide lives_any
  have HM : Hid (∀ (md what : Int) (W : World), Calls Try.prog 11 #[.agg #[.int .u8 (1 + (k : Int) % 3), .int .i64 md, .int .i64 u, .int .i64 g, .int .i64 0, .int .i64 0, .slice none 0 0, .string ⟨#[]⟩, .slice none 0 0, .int .i64 0], .agg (ea e), .int .i64 what] W fun r w' => r = .returned (.bool (mayP ⟨UInt8.ofNat (1 + k % 3), md, u, g, 0, 0, [], ⟨#[]⟩, [], 0⟩ e what)) ∧ Below W.heap.size W w') := fun md what W => by
    rw [← kind_of k]
    exact may_any ⟨UInt8.ofNat (1 + k % 3), md, u, g, 0, 0, [], ⟨#[]⟩, [], 0⟩ (.slice none 0 0) (.slice none 0 0) e what W
  obtain ⟨M, hMe⟩ : ∃ M : Int, M = (m : Int) % 512 := ⟨_, rfl⟩
  obtain ⟨M2, hM2⟩ : ∃ M2 : Int, M2 = bits .or .i64 ((m : Int) % 512) ((o : Int) % 512) := ⟨_, rfl⟩
  obtain ⟨mp, hmp⟩ : ∃ mp, mp = mayP ⟨UInt8.ofNat (1 + k % 3), M, u, g, 0, 0, [], ⟨#[]⟩, [], 0⟩ e := ⟨_, rfl⟩
  obtain ⟨mq, hmq⟩ : ∃ mq, mq = mayP ⟨UInt8.ofNat (1 + k % 3), M2, u, g, 0, 0, [], ⟨#[]⟩, [], 0⟩ e := ⟨_, rfl⟩
  have HE : Hid (∀ what, mp what = true → mq what = true) := fun what h => by
    rw [hmq, hM2, or512]
    rw [hmp, hMe] at h
    exact more_fact _ (m % 512) (o % 512) u g e (by omega) (by omega) what h
  have HM1 := hide (unhide HM M)
  have HM2 := hide (unhide HM M2)
  have hm2 : ∀ what, mayP ⟨UInt8.ofNat (1 + k % 3), M2, u, g, 0, 0, [], ⟨#[]⟩, [], 0⟩ e what = mq what := fun what => by rw [hmq]
  have hm1 : ∀ what, mayP ⟨UInt8.ofNat (1 + k % 3), M, u, g, 0, 0, [], ⟨#[]⟩, [], 0⟩ e what = mp what := fun what => by rw [hmp]
  simp only [hm1] at HM1
  simp only [hm2] at HM2
  clear hmp hmq HM hm1 hm2
  have HP0 := hide (pq_new w (.cells #[.int .u8 k, .int .u16 m, .int .u16 o, .int .u16 u, .int .u16 g, .int .i64 e.user, .int .i64 e.group, .int .i64 e.mask, .int .i64 e.dir] 44) e #[.int .u8 (1 + (k : Int) % 3), .int .i64 M, .int .i64 u, .int .i64 g, .int .i64 0, .int .i64 0, .slice none 0 0, .string ⟨#[]⟩, .slice none 0 0, .int .i64 0] #[.int .u8 (1 + (k : Int) % 3), .int .i64 M2, .int .i64 u, .int .i64 g, .int .i64 0, .int .i64 0, .slice none 0 0, .string ⟨#[]⟩, .slice none 0 0, .int .i64 0])
  obtain ⟨us, gr, mk, dr⟩ := e
  unfold ea at *
  simp only at *
  have hMe' := hide hMe
  have hM2' := hide hM2
  clear hMe hM2
  go_enter Try.func6, Try.ntmps6
  go_wp2_with fail
  rw [← unhide hM2', ← unhide hMe']
  clear hM2' hMe'
  obtain ⟨N1, hN1⟩ : ∃ N, N = w.heap.size + 1 := ⟨_, rfl⟩
  obtain ⟨N2, hN2⟩ : ∃ N, N = w.heap.size + 1 + 1 := ⟨_, rfl⟩
  obtain ⟨N3, hN3⟩ : ∃ N, N = w.heap.size + 1 + 1 + 1 := ⟨_, rfl⟩
  rw [← hN3, ← hN2, ← hN1] at HP0
  rw [← hN3, ← hN2, ← hN1]
  clear hN1 hN2 hN3
  go_loopw [6] (fun i wr => ∃ (a : Nat), 1 ≤ a ∧ a ≤ 8 ∧ i = .int .i64 a ∧ Hid (Pq w wr N1 N2 N3 #[.int .u8 (1 + (k : Int) % 3), .int .i64 M, .int .i64 u, .int .i64 g, .int .i64 0, .int .i64 0, .slice none 0 0, .string ⟨#[]⟩, .slice none 0 0, .int .i64 0] #[.int .u8 (1 + (k : Int) % 3), .int .i64 M2, .int .i64 u, .int .i64 g, .int .i64 0, .int .i64 0, .slice none 0 0, .string ⟨#[]⟩, .slice none 0 0, .int .i64 0] ⟨us, gr, mk, dr⟩)) (fun i _ => 8 - (intOf i).toNat)
  case atStart => exact ⟨1, by omega, by omega, rfl, HP0⟩
  case round =>
    obtain ⟨a, ha1, ha8, rfl, HP⟩ := hrel
    by_cases hlt : a < 8
    · have HEa := hide (unhide HE a)
      obtain ⟨c0, c1, c2, c3, c4, c5, c6, c7, c8, c9⟩ := box10 (unhide HP).node
      obtain ⟨e0, e1, e2, e3⟩ := box4 (unhide HP).env
      go_wp2_with fail
      refine (unhide HM1 a _).mono ?_
      rintro r w1 ⟨rfl, hb⟩
      have HP' := hide ((unhide HP).step hb)
      clear hb HP c0 c1 c2 c3 c4 c5 c6 c7 c8 c9 e0 e1 e2 e3
      obtain ⟨q, hq⟩ : ∃ q, q = mp a := ⟨_, rfl⟩
      rw [← hq] at HEa ⊢
      clear hq
      cases q
      · go_wp2_with fail
        go_roundw
        case rel => exact ⟨a + 1, by omega, by omega, by go_num, HP'⟩
        case measure => simp [intOf]; omega
      · obtain ⟨c0, c1, c2, c3, c4, c5, c6, c7, c8, c9⟩ := box10 (unhide HP').other
        obtain ⟨e0, e1, e2, e3⟩ := box4 (unhide HP').env
        go_wp2_with fail
        refine (unhide HM2 a _).mono ?_
        rintro r w2 ⟨rfl, hb⟩
        rw [unhide HEa (by first | exact trivial | rfl)]
        have HP2 := hide ((unhide HP').step hb)
        clear hb HP' c0 c1 c2 c3 c4 c5 c6 c7 c8 c9 e0 e1 e2 e3
        go_wp2_with fail
        go_roundw
        case rel => exact ⟨a + 1, by omega, by omega, by go_num, HP2⟩
        case measure => simp [intOf]; omega
    · have h8 : a = 8 := by omega
      subst h8
      go_wp2_with fail
      refine (unhide HL _).mono ?_
      rintro r w' ⟨rfl, hb⟩
      have HB := hide ((unhide HP).step hb).below
      clear hb
      go_wp2_with fail
      go_ret
      exact ⟨rfl, unhide HB⟩
end Go.Proofs.Ytngljliollbcnaa.Pm
