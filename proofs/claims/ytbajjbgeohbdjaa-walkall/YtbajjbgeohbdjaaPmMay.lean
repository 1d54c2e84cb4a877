/- Who may do what, in plain words; perms.May and perms.Owns walked. -/
import Derived.Test.YtbajjbgeohbdjaaTrNode
import Derived.Test.YtbajjbgeohbdjaaMoPlain
namespace Go.Proofs.Ytbajjbgeohbdjaa.Pm
open Go.RowKit Go.Proofs.Ytbajjbgeohbdjaa.Cu Go.Proofs.Ytbajjbgeohbdjaa.Tr

/-- somebody -/
structure Ev where
  user : Int
  group : Int
  mask : Int
  dir : Int
abbrev ea (e : Ev) : Array Value := #[.int .i64 e.user, .int .i64 e.group, .int .i64 e.mask, .int .i64 e.dir]
def bitsP (n : Nd) (e : Ev) : Nat := if e.user = n.user then (n.mode / 64 % 8).toNat else if e.group = n.group then (n.mode / 8 % 8).toNat else (n.mode % 8).toNat
theorem bitsP_lt (n : Nd) (e : Ev) : bitsP n e < 8 := by unfold bitsP; (repeat' split) <;> omega
/-- all bits of a are bits of b -/
def sub (a b : Nat) : Bool := a &&& b == a
def anyX (m : Int) : Bool := bits .and .i64 m 73 != 0
def passP (n : Nd) : Bool := !decide (n.kind = 1) || anyX n.mode
def mayP (n : Nd) (e : Ev) (what : Int) : Bool := if what < 1 ∨ 7 < what ∨ n.kind = 0 then false else if e.user = 0 then decide (what % 2 = 0) || passP n else sub what.toNat (bitsP n e)
def ownsP (n : Nd) (e : Ev) : Bool := decide (e.user = 0) || decide (e.user = n.user)

theorem not8 : ∀ a, a < 8 → ∀ b, b < 8 → (bits .andNot .i64 ((a : Nat) : Int) ((b : Nat) : Int) == 0) = sub a b := by decide +kernel
theorem and8 : ∀ a, a < 8 → ∀ b, b < 8 → (bits .and .i64 ((b : Nat) : Int) ((a : Nat) : Int) == ((a : Nat) : Int)) = sub a b := by decide +kernel
theorem and1 (x : Int) : (bits .and .i64 x 1 == 0) = decide (x % 2 = 0) := by rw [Mo.and1, Bool.eq_iff_iff]; simp
theorem kd {k : UInt8} (c : UInt8) : (((k.toNat : Nat) : Int) == ((c.toNat : Nat) : Int)) = decide (k = c) := by
  rw [Bool.eq_iff_iff]; simp only [beq_iff_eq, decide_eq_true_eq]; exact ⟨fun h => UInt8.toNat_inj.1 (by omega), fun h => by rw [h]⟩
theorem kd_ne (k c : UInt8) (h : ¬ k = c) : (((k.toNat : Nat) : Int) != ((c.toNat : Nat) : Int)) = true := by
  rw [bne_iff_ne]; exact fun e => h (UInt8.toNat_inj.1 (by omega))
theorem ret_b {a b : Bool} (h : a = b) : Ending.returned (.bool a) = .returned (.bool b) := by rw [h]
theorem b2 (w : World) (o1 o2 : Obj) : Below w.heap.size w ((w.alloc o1).alloc o2) := ((Below.refl _ _).alloc (Nat.le_refl _) _).alloc (by simp) _
theorem b1 (w : World) (o1 : Obj) : Below w.heap.size w (w.alloc o1) := (Below.refl _ _).alloc (Nat.le_refl _) _
set_option maxRecDepth 100000 in
set_option maxHeartbeats 1000000 in
theorem bitsOf_any (n : Nd) (d l : Value) (e : Ev) (w : World) :
    Calls Try.prog 67 #[.agg (na n d l), .agg (ea e)] w fun r w' => r = .returned (.int .i64 (bitsP n e)) ∧ Below w.heap.size w w' := by
  obtain ⟨kd, md, us, gr, lk, ti, dt, tg, ls, pa⟩ := n
  obtain ⟨u, g, mk, dr⟩ := e
  unfold na ea
  obtain ⟨B, HB⟩ : ∃ B, Hid (B = bitsP ⟨kd, md, us, gr, lk, ti, dt, tg, ls, pa⟩ ⟨u, g, mk, dr⟩) := ⟨_, rfl⟩
  rw [← unhide HB]
  simp only
  by_cases a1 : u = us
  · have HR : Hid ((bits .and .i64 (md / 8 / 8) 7) = (B : Int)) := by show _ = _; rw [unhide HB, Mo.and7]; simp only [bitsP, a1, if_true]; omega
    clear HB
    go_enter Try.func67, Try.ntmps67
    go_wp2
    go_ret
    exact ⟨Mo.ret_i (unhide HR), b2 _ _ _⟩
  by_cases a2 : g = gr
  · have HR : Hid ((bits .and .i64 (md / 8) 7) = (B : Int)) := by show _ = _; rw [unhide HB, Mo.and7]; simp only [bitsP, a1, a2, if_true, if_false]; omega
    clear HB
    go_enter Try.func67, Try.ntmps67
    go_wp2
    go_ret
    exact ⟨Mo.ret_i (unhide HR), b2 _ _ _⟩
  · have HR : Hid ((bits .and .i64 md 7) = (B : Int)) := by show _ = _; rw [unhide HB, Mo.and7]; simp only [bitsP, a1, a2, if_false]; omega
    clear HB
    go_enter Try.func67, Try.ntmps67
    go_wp2
    go_ret
    exact ⟨Mo.ret_i (unhide HR), b2 _ _ _⟩
set_option maxRecDepth 100000 in
set_option maxHeartbeats 1000000 in
theorem passes_any (n : Nd) (d l : Value) (w : World) :
    Calls Try.prog 66 #[.agg (na n d l)] w fun r w' => r = .returned (.bool (passP n)) ∧ Below w.heap.size w w' := by
  obtain ⟨kd, md, us, gr, lk, ti, dt, tg, ls, pa⟩ := n
  unfold na
  simp only
  by_cases a1 : kd = 1
  · have hv : passP ⟨kd, md, us, gr, lk, ti, dt, tg, ls, pa⟩ = (bits .and .i64 md 73 != 0) := by simp [passP, a1, anyX]
    rw [hv]
    subst a1
    go_enter Try.func66, Try.ntmps66
    go_wp2
    go_ret
    exact ⟨rfl, b1 _ _⟩
  · have hv : passP ⟨kd, md, us, gr, lk, ti, dt, tg, ls, pa⟩ = true := by simp [passP, a1]
    rw [hv]
    have hk : (((kd.toNat : Nat) : Int) != 1) = true := by have := kd_ne kd 1 a1; simpa using this
    clear a1 hv
    go_enter Try.func66, Try.ntmps66
    go_wp2
    go_ret
    exact ⟨rfl, b1 _ _⟩
set_option maxRecDepth 100000 in
set_option maxHeartbeats 1000000 in
theorem may_any (n : Nd) (d l : Value) (e : Ev) (what : Int) (w : World) :
    Calls Try.prog 52 #[.agg (na n d l), .agg (ea e), .int .i64 what] w fun r w' => r = .returned (.bool (mayP n e what)) ∧ Below w.heap.size w w' := by
  have HC := hide (fun W => passes_any n d l W)
  have HD := hide (fun W => bitsOf_any n d l e W)
  have hB8 := bitsP_lt n e
  have HN : Hid (∀ a, a < 8 → (bits .andNot .i64 ((a : Nat) : Int) ((bitsP n e : Nat) : Int) == 0) = sub a (bitsP n e)) := fun a ha => not8 a ha _ hB8
  obtain ⟨P, HP⟩ : ∃ P, Hid (P = passP n) := ⟨_, rfl⟩
  obtain ⟨B, HB⟩ : ∃ B, Hid (B = bitsP n e) := ⟨_, rfl⟩
  rw [← unhide HP] at HC
  rw [← unhide HB] at HD HN hB8
  obtain ⟨M, HM⟩ : ∃ M, Hid (M = mayP n e what) := ⟨_, rfl⟩
  rw [← unhide HM]
  have HMe : Hid (M = if what < 1 ∨ 7 < what ∨ n.kind = 0 then false else if e.user = 0 then decide (what % 2 = 0) || P else sub what.toNat B) := by
    show M = _
    rw [unhide HM, mayP, unhide HP, unhide HB]
  clear HM HP HB
  obtain ⟨kd, md, us, gr, lk, ti, dt, tg, ls, pa⟩ := n
  obtain ⟨u, g, mk, dr⟩ := e
  unfold na ea at *
  simp only at *
  by_cases a1 : what < 1
  · have hM : M = false := by rw [unhide HMe, if_pos (.inl a1)]
    subst hM
    clear HMe HC HD HN
    go_enter Try.func52, Try.ntmps52
    go_wp2_with fail
    go_ret
    exact ⟨rfl, b2 _ _ _⟩
  by_cases a2 : 7 < what
  · have hM : M = false := by rw [unhide HMe, if_pos (.inr (.inl a2))]
    subst hM
    clear HMe HC HD HN
    go_enter Try.func52, Try.ntmps52
    go_wp2_with fail
    go_ret
    exact ⟨rfl, b2 _ _ _⟩
  by_cases a3 : kd = 0
  · have hM : M = false := by rw [unhide HMe, if_pos (.inr (.inr a3))]
    subst hM
    subst a3
    clear HMe HC HD HN
    go_enter Try.func52, Try.ntmps52
    go_wp2_with fail
    go_ret
    exact ⟨rfl, b2 _ _ _⟩
  have hk : (((kd.toNat : Nat) : Int) == 0) = false := by have := kd_ne kd 0 a3; simpa using this
  obtain ⟨a, rfl⟩ : ∃ a : Nat, what = (a : Int) := ⟨what.toNat, by omega⟩
  have ha : a < 8 := by omega
  have hN := unhide HN a ha
  rw [if_neg (fun h => h.elim a1 fun h => h.elim a2 a3)] at HMe
  by_cases a4 : u = 0
  · rw [if_pos a4] at HMe
    subst a4
    by_cases a5 : (a : Int) % 2 = 0
    · have hM : M = true := by rw [unhide HMe]; simp only [a5, decide_true, Bool.true_or]
      have h1 : (bits .and .i64 (a : Int) 1 == 0) = true := by rw [and1, a5]; rfl
      subst hM
      clear HMe HC HD HN hN a5 a3
      go_enter Try.func52, Try.ntmps52
      go_wp2_with fail
      go_ret
      exact ⟨rfl, b2 _ _ _⟩
    · have hM : M = P := by rw [unhide HMe]; simp only [a5, decide_false, Bool.false_or]
      have h1 : (bits .and .i64 (a : Int) 1 == 0) = false := by rw [and1]; exact decide_eq_false a5
      subst hM
      clear HMe HD HN hN a5 a3
      go_enter Try.func52, Try.ntmps52
      go_wp2_with fail
      refine (unhide HC _).mono ?_
      rintro r w' ⟨rfl, hb⟩
      have HB := hide ((b2 w _ _).trans (hb.mono (by simp; omega)))
      clear hb
      go_wp2_with fail
      go_ret
      exact ⟨rfl, unhide HB⟩
  · rw [if_neg a4] at HMe
    have hM : M = sub a B := by rw [unhide HMe]; rfl
    have HM2 : Hid ((bits .andNot .i64 (a : Int) (B : Int) == 0) = M) := hN.trans hM.symm
    clear HMe HC HN hN hM a3
    go_enter Try.func52, Try.ntmps52
    go_wp2_with fail
    refine (unhide HD _).mono ?_
    rintro r w' ⟨rfl, hb⟩
    have HB := hide ((b2 w _ _).trans (hb.mono (by simp; omega)))
    clear hb
    go_wp2_with fail
    go_ret
    exact ⟨ret_b (unhide HM2), unhide HB⟩
end Go.Proofs.Ytbajjbgeohbdjaa.Pm
