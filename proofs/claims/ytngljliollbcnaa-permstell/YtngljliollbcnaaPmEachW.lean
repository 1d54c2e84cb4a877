/- PermsEach walked. -/
import Derived.Test.YtngljliollbcnaaPmLives
namespace Go.Proofs.Ytngljliollbcnaa.Pm
open Go.RowKit Go.Proofs.Ytngljliollbcnaa.Cu Go.Proofs.Ytngljliollbcnaa.Tr

/-- somebody and a node in their boxes -/
structure Pr (w W : World) (N1 N2 : Nat) (a : Array Value) (e : Ev) : Prop where
  below : Below w.heap.size w W
  env : W.heap[N1]? = some (.cells (ea e) 28)
  node : W.heap[N2]? = some (.cells a 26)
theorem Pr.step {w W W' : World} {N1 N2 : Nat} {a : Array Value} {e : Ev} (h : Pr w W N1 N2 a e) (hb : Below W.heap.size W W') : Pr w W' N1 N2 a e :=
  ⟨h.below.trans (hb.mono h.below.size), (hb.block _ (Array.getElem?_eq_some_iff.1 h.env).1).trans h.env, (hb.block _ (Array.getElem?_eq_some_iff.1 h.node).1).trans h.node⟩
theorem box4 {W : World} {N : Nat} {t : TypeId} {a0 a1 a2 a3 : Value} (h : W.heap[N]? = some (.cells #[a0, a1, a2, a3] t)) : W.cell? ⟨N, 0, none⟩ = some a0 ∧ W.cell? ⟨N, 1, none⟩ = some a1 ∧ W.cell? ⟨N, 2, none⟩ = some a2 ∧ W.cell? ⟨N, 3, none⟩ = some a3 :=
  ⟨by rw [cell_of_row _ _ _ _ _ _ h]; rfl, by rw [cell_of_row _ _ _ _ _ _ h]; rfl, by rw [cell_of_row _ _ _ _ _ _ h]; rfl, by rw [cell_of_row _ _ _ _ _ _ h]; rfl⟩
theorem kind_of (k : Nat) : (((UInt8.ofNat (1 + k % 3)).toNat : Nat) : Int) = 1 + (k : Int) % 3 := by simp; omega
theorem pr_new (w : World) (o : Obj) (e : Ev) (a : Array Value) : Pr w (((w.alloc o).alloc (.cells (ea e) 28)).alloc (.cells a 26)) (w.heap.size + 1) (w.heap.size + 1 + 1) a e := by
  have k1 := heap_alloc_new (w.alloc o) (.cells (ea e) 28)
  have k2 := heap_alloc_new ((w.alloc o).alloc (.cells (ea e) 28)) (.cells a 26)
  rw [World.size_alloc] at k1
  rw [World.size_alloc, World.size_alloc] at k2
  exact ⟨(b2 w _ _).alloc (by simp; omega) _, (Below.heap_alloc _ _ _ (by simp)).trans k1, k2⟩
def tb (a j : Nat) : Bool := decide (a / 2 ^ j % 2 = 1)
theorem tb0 : ∀ a, a < 8 → (bits .and .i64 ((a : Nat) : Int) 1 != 0) = tb a 0 := by decide +kernel
theorem tb1 : ∀ a, a < 8 → (bits .and .i64 ((a : Nat) : Int) 2 != 0) = tb a 1 := by decide +kernel
theorem tb2 : ∀ a, a < 8 → (bits .and .i64 ((a : Nat) : Int) 4 != 0) = tb a 2 := by decide +kernel
def A1 (mp : Int → Bool) (a : Nat) : Bool := !tb a 0 || mp 1
def A2 (mp : Int → Bool) (a : Nat) : Bool := A1 mp a && (!tb a 1 || mp 2)
def A3 (mp : Int → Bool) (a : Nat) : Bool := A2 mp a && (!tb a 2 || mp 4)
theorem sub_each : ∀ a, a < 8 → ∀ b, b < 8 → sub a b = (((!tb a 0 || sub 1 b) && (!tb a 1 || sub 2 b)) && (!tb a 2 || sub 4 b)) := by decide +kernel
theorem some_bit : ∀ a, a < 8 → 1 ≤ a → (((!tb a 0 || false) && (!tb a 1 || false)) && (!tb a 2 || false)) = false := by decide +kernel
theorem odd_bit : ∀ a, a < 8 → ∀ p : Bool, (decide (((a : Nat) : Int) % 2 = 0) || p) = (((!tb a 0 || p) && (!tb a 1 || true)) && (!tb a 2 || true)) := by decide +kernel
theorem each_fact (n : Nd) (e : Ev) (a : Nat) (h1 : 1 ≤ a) (h8 : a < 8) : mayP n e a = A3 (mayP n e) a := by
  unfold A3 A2 A1
  by_cases hk : n.kind = 0
  · have hf : ∀ x, mayP n e x = false := fun x => by unfold mayP; rw [if_pos (.inr (.inr hk))]
    rw [hf, hf, hf, hf]
    exact (some_bit a h8 h1).symm
  · have hn : ∀ x : Nat, 1 ≤ x → x < 8 → mayP n e x = if e.user = 0 then decide (((x : Nat) : Int) % 2 = 0) || passP n else sub x (bitsP n e) := fun x h1 h8 => by
      unfold mayP
      rw [if_neg (fun h => h.elim (by omega) fun h => h.elim (by omega) hk)]
      rfl
    have g1 := hn 1 (by omega) (by omega)
    have g2 := hn 2 (by omega) (by omega)
    have g4 := hn 4 (by omega) (by omega)
    rw [hn a h1 h8, show mayP n e 1 = mayP n e ((1 : Nat) : Int) from rfl, show mayP n e 2 = mayP n e ((2 : Nat) : Int) from rfl, show mayP n e 4 = mayP n e ((4 : Nat) : Int) from rfl, g1, g2, g4]
    by_cases hu : e.user = 0
    · simp only [if_pos hu]
      exact odd_bit a h8 _
    · simp only [if_neg hu]
      exact sub_each a h8 _ (bitsP_lt n e)
set_option maxRecDepth 100000 in
set_option maxHeartbeats 1000000 in
theorem each_walk (k m o u g : Nat) (hk : k < 256) (hm : m < 65536) (hu : u < 65536) (hg : g < 65536) (e : Ev) (w : World) :
    Calls Try.prog 5 #[.agg #[.int .u8 k, .int .u16 m, .int .u16 o, .int .u16 u, .int .u16 g, .int .i64 e.user, .int .i64 e.group, .int .i64 e.mask, .int .i64 e.dir]] w fun r w' => r = .returned (.bool true) ∧ Below w.heap.size w w' := by
  have HL := hide lives_any
  have HM : Hid (∀ (what : Int) (W : World), Calls Try.prog 11 #[.agg #[.int .u8 (1 + (k : Int) % 3), .int .i64 ((m : Int) % 512), .int .i64 u, .int .i64 g, .int .i64 0, .int .i64 0, .slice none 0 0, .string ⟨#[]⟩, .slice none 0 0, .int .i64 0], .agg (ea e), .int .i64 what] W fun r w' => r = .returned (.bool (mayP ⟨UInt8.ofNat (1 + k % 3), (m : Int) % 512, u, g, 0, 0, [], ⟨#[]⟩, [], 0⟩ e what)) ∧ Below W.heap.size W w') := fun what W => by
    rw [← kind_of k]
    exact may_any ⟨UInt8.ofNat (1 + k % 3), (m : Int) % 512, u, g, 0, 0, [], ⟨#[]⟩, [], 0⟩ (.slice none 0 0) (.slice none 0 0) e what W
  have HE := hide (each_fact ⟨UInt8.ofNat (1 + k % 3), (m : Int) % 512, u, g, 0, 0, [], ⟨#[]⟩, [], 0⟩ e)
  obtain ⟨mp, hmp⟩ : ∃ mp, mp = mayP ⟨UInt8.ofNat (1 + k % 3), (m : Int) % 512, u, g, 0, 0, [], ⟨#[]⟩, [], 0⟩ e := ⟨_, rfl⟩
  rw [← hmp] at HM HE
  clear hmp
  have HP0 := hide (pr_new w (.cells #[.int .u8 k, .int .u16 m, .int .u16 o, .int .u16 u, .int .u16 g, .int .i64 e.user, .int .i64 e.group, .int .i64 e.mask, .int .i64 e.dir] 44) e #[.int .u8 (1 + (k : Int) % 3), .int .i64 ((m : Int) % 512), .int .i64 u, .int .i64 g, .int .i64 0, .int .i64 0, .slice none 0 0, .string ⟨#[]⟩, .slice none 0 0, .int .i64 0])
  obtain ⟨us, gr, mk, dr⟩ := e
  unfold ea at *
  simp only at *
  go_enter Try.func5, Try.ntmps5
  go_wp2_with fail
  obtain ⟨N1, hN1⟩ : ∃ N, N = w.heap.size + 1 := ⟨_, rfl⟩
  obtain ⟨N2, hN2⟩ : ∃ N, N = w.heap.size + 1 + 1 := ⟨_, rfl⟩
  rw [← hN2, ← hN1] at HP0
  rw [← hN2, ← hN1]
  clear hN1 hN2
  go_loopw [5] (fun i wr => ∃ (a : Nat), 1 ≤ a ∧ a ≤ 8 ∧ i = .int .i64 a ∧ Hid (Pr w wr N1 N2 #[.int .u8 (1 + (k : Int) % 3), .int .i64 ((m : Int) % 512), .int .i64 u, .int .i64 g, .int .i64 0, .int .i64 0, .slice none 0 0, .string ⟨#[]⟩, .slice none 0 0, .int .i64 0] ⟨us, gr, mk, dr⟩)) (fun i _ => 8 - (intOf i).toNat)
  case atStart => exact ⟨1, by omega, by omega, rfl, HP0⟩
  case round =>
    obtain ⟨a, ha1, ha8, rfl, HP⟩ := hrel
    by_cases hlt : a < 8
    · have HEa := hide (unhide HE a ha1 hlt)
      have hd : decide ((a : Int) < 8) = true := by simp; omega
      go_wp2_with fail
      go_loopw [6, 7] (fun al b wr => ((al = .bool true ∧ b = .int .i64 1) ∨ (al = .bool (A1 mp a) ∧ b = .int .i64 2) ∨ (al = .bool (A2 mp a) ∧ b = .int .i64 4) ∨ (al = .bool (A3 mp a) ∧ b = .int .i64 8)) ∧ Hid (Pr w wr N1 N2 #[.int .u8 (1 + (k : Int) % 3), .int .i64 ((m : Int) % 512), .int .i64 u, .int .i64 g, .int .i64 0, .int .i64 0, .slice none 0 0, .string ⟨#[]⟩, .slice none 0 0, .int .i64 0] ⟨us, gr, mk, dr⟩)) (fun _ b _ => 8 - (intOf b).toNat)
      case atStart => exact ⟨.inl ⟨rfl, rfl⟩, HP⟩
      case round =>
        clear HP
        obtain ⟨hj, HP⟩ := hrel
        rcases hj with ⟨rfl, rfl⟩ | ⟨rfl, rfl⟩ | ⟨rfl, rfl⟩ | ⟨rfl, rfl⟩
        · have ht := tb0 a hlt
          cases hq : tb a 0 with
          | false =>
            rw [hq] at ht
            have HX : Hid (true = A1 mp a) := by show _ = _; unfold A1; simp [hq]
            clear hq
            go_wp2_with fail
            go_roundw
            case rel => exact ⟨.inr (.inl ⟨by rw [unhide HX], rfl⟩), HP⟩
            case measure => simp [intOf]
          | true =>
            rw [hq] at ht
            have HX : Hid ((true && mp 1) = A1 mp a) := by show _ = _; unfold A1; simp [hq]
            clear hq
            obtain ⟨c0, c1, c2, c3, c4, c5, c6, c7, c8, c9⟩ := box10 (unhide HP).node
            obtain ⟨e0, e1, e2, e3⟩ := box4 (unhide HP).env
            go_wp2_with fail
            refine (unhide HM 1 _).mono ?_
            rintro r w' ⟨rfl, hb⟩
            have HP' := hide ((unhide HP).step hb)
            clear hb HP c0 c1 c2 c3 c4 c5 c6 c7 c8 c9 e0 e1 e2 e3
            cases hz : mp 1 with
            | false =>
              rw [hz, Bool.and_false] at HX
              clear hz
              go_wp2_with fail
              go_roundw
              case rel => exact ⟨.inr (.inl ⟨by rw [← unhide HX], rfl⟩), HP'⟩
              case measure => simp [intOf]
            | true =>
              rw [hz, Bool.and_true] at HX
              clear hz
              go_wp2_with fail
              go_roundw
              case rel => exact ⟨.inr (.inl ⟨by rw [← unhide HX], rfl⟩), HP'⟩
              case measure => simp [intOf]
        · have ht := tb1 a hlt
          cases hq : tb a 1 with
          | false =>
            rw [hq] at ht
            have HX : Hid (A1 mp a = A2 mp a) := by show _ = _; unfold A2; simp [hq]
            clear hq
            go_wp2_with fail
            go_roundw
            case rel => exact ⟨.inr (.inr (.inl ⟨by rw [unhide HX], rfl⟩)), HP⟩
            case measure => simp [intOf]
          | true =>
            rw [hq] at ht
            have HX : Hid ((A1 mp a && mp 2) = A2 mp a) := by show _ = _; unfold A2; simp [hq]
            clear hq
            obtain ⟨c0, c1, c2, c3, c4, c5, c6, c7, c8, c9⟩ := box10 (unhide HP).node
            obtain ⟨e0, e1, e2, e3⟩ := box4 (unhide HP).env
            go_wp2_with fail
            refine (unhide HM 2 _).mono ?_
            rintro r w' ⟨rfl, hb⟩
            have HP' := hide ((unhide HP).step hb)
            clear hb HP c0 c1 c2 c3 c4 c5 c6 c7 c8 c9 e0 e1 e2 e3
            cases hz : mp 2 with
            | false =>
              rw [hz, Bool.and_false] at HX
              clear hz
              go_wp2_with fail
              go_roundw
              case rel => exact ⟨.inr (.inr (.inl ⟨by rw [← unhide HX], rfl⟩)), HP'⟩
              case measure => simp [intOf]
            | true =>
              rw [hz, Bool.and_true] at HX
              clear hz
              go_wp2_with fail
              go_roundw
              case rel => exact ⟨.inr (.inr (.inl ⟨by rw [← unhide HX], rfl⟩)), HP'⟩
              case measure => simp [intOf]
        · have ht := tb2 a hlt
          cases hq : tb a 2 with
          | false =>
            rw [hq] at ht
            have HX : Hid (A2 mp a = A3 mp a) := by show _ = _; unfold A3; simp [hq]
            clear hq
            go_wp2_with fail
            go_roundw
            case rel => exact ⟨.inr (.inr (.inr ⟨by rw [unhide HX], rfl⟩)), HP⟩
            case measure => simp [intOf]
          | true =>
            rw [hq] at ht
            have HX : Hid ((A2 mp a && mp 4) = A3 mp a) := by show _ = _; unfold A3; simp [hq]
            clear hq
            obtain ⟨c0, c1, c2, c3, c4, c5, c6, c7, c8, c9⟩ := box10 (unhide HP).node
            obtain ⟨e0, e1, e2, e3⟩ := box4 (unhide HP).env
            go_wp2_with fail
            refine (unhide HM 4 _).mono ?_
            rintro r w' ⟨rfl, hb⟩
            have HP' := hide ((unhide HP).step hb)
            clear hb HP c0 c1 c2 c3 c4 c5 c6 c7 c8 c9 e0 e1 e2 e3
            cases hz : mp 4 with
            | false =>
              rw [hz, Bool.and_false] at HX
              clear hz
              go_wp2_with fail
              go_roundw
              case rel => exact ⟨.inr (.inr (.inr ⟨by rw [← unhide HX], rfl⟩)), HP'⟩
              case measure => simp [intOf]
            | true =>
              rw [hz, Bool.and_true] at HX
              clear hz
              go_wp2_with fail
              go_roundw
              case rel => exact ⟨.inr (.inr (.inr ⟨by rw [← unhide HX], rfl⟩)), HP'⟩
              case measure => simp [intOf]
        · rw [← unhide HEa]
          obtain ⟨c0, c1, c2, c3, c4, c5, c6, c7, c8, c9⟩ := box10 (unhide HP).node
          obtain ⟨e0, e1, e2, e3⟩ := box4 (unhide HP).env
          go_wp2_with fail
          refine (unhide HM a _).mono ?_
          rintro r w' ⟨rfl, hb⟩
          have HP' := hide ((unhide HP).step hb)
          clear hb HP c0 c1 c2 c3 c4 c5 c6 c7 c8 c9 e0 e1 e2 e3 HEa
          obtain ⟨q, hq⟩ : ∃ q, q = mp a := ⟨_, rfl⟩
          rw [← hq]
          clear hq
          cases q
          all_goals
            go_wp2_with fail
            go_roundw
            case rel => exact ⟨a + 1, by omega, by omega, by go_num, HP'⟩
            case measure => simp [intOf]; omega
    · have h8 : a = 8 := by omega
      subst h8
      go_wp2_with fail
      refine (unhide HL _).mono ?_
      rintro r w' ⟨rfl, hb⟩
      have HB := hide ((unhide HP).step hb).below
      clear hb
      go_wp2_with fail
      go_ret
      exact ⟨rfl, unhide HB⟩
end Go.Proofs.Ytngljliollbcnaa.Pm
