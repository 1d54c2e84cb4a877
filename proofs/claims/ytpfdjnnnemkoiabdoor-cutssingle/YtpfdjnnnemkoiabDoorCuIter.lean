/- The iterators: a text's bytes; things at places that count. -/
import Derived.Test.YtpfdjnnnemkoiabDoorCuRng
import Derived.Test.YtpfdjnnnemkoiabDoorCuBase
import Derived.Shelf.Abstract
import Derived.OwnWalkIn
import Derived.TacticsInMore
import Derived.LoopNIn
import Derived.LoopIn
import Derived.Maps.AppendAt
namespace Go.Proofs.YtpfdjnnnemkoiabDoor.Cu
open Go.RowKit Go.Shelf

attribute [local go_sem] Oper.semAt_some

def bt (l : Bs) : ByteArray := ⟨l.toArray⟩
def encB (c : UInt8) : Array Value := #[.int .u8 c.toNat]
def encS (x : Bs) : Array Value := #[.string (bt x)]

/-- things whose places, from k + 1 on, count -/
def pick {α : Type} (p : Nat → Bool) : Nat → List α → List α
  | _, [] => []
  | k, x :: xs => if p (k + 1) then x :: pick p (k + 1) xs else pick p (k + 1) xs
theorem pick_app {α : Type} (p : Nat → Bool) (a b : List α) : ∀ k, pick p k (a ++ b) = pick p k a ++ pick p (k + a.length) b := by
  induction a with
  | nil => intro k; simp [pick]
  | cons x a ih =>
    intro k
    rw [List.cons_append, pick, pick, ih, show k + 1 + a.length = k + (x :: a).length by simp; omega]
    split <;> simp
theorem pick_snoc {α : Type} (p : Nat → Bool) (pre : List α) (x : α) : pick p 0 (pre ++ [x]) = pick p 0 pre ++ if p (pre.length + 1) then [x] else [] := by
  rw [pick_app, Nat.zero_add]; congr 1
theorem pick_prefix {α : Type} (p : Nat → Bool) {a b : List α} (h : a <+: b) : pick p 0 a <+: pick p 0 b := by
  obtain ⟨r, rfl⟩ := h
  rw [pick_app]; exact List.prefix_append _ _
theorem pick_len {α : Type} (p : Nat → Bool) (a : List α) : ∀ k, (pick p k a).length ≤ a.length := by
  induction a with
  | nil => intro k; simp [pick]
  | cons x a ih =>
    intro k
    have := ih (k + 1)
    rw [pick]; split <;> simp <;> omega

set_option maxHeartbeats 1000000 in
theorem eachByte_any (s : ByteArray) (w : World) :
    Calls Tryd.prog 20 #[.string s] w fun e w' => e = .returned (.func (.func 38) #[] #[.pointer (some ⟨w.heap.size, 0, none⟩)]) ∧ w' = w.alloc (.cells #[.string s] 9) := by
  have hmf : ∀ (fn : Fn) (first cap : Array Value) (w : World), (Instr.makeFunc fn first cap).run Tryd.prog w = .ok (.func fn first cap) w := fun _ _ _ _ => rfl
  go_enter Tryd.func20, Tryd.ntmps20
  go_wp2
  go_ret
  exact ⟨rfl, rfl⟩

set_option maxHeartbeats 1000000 in
theorem listed_any (v : Value) (hv : v.oneCell' = true) (w : World) :
    Calls Tryd.prog 21 #[v] w fun e w' => e = .returned (.func (.func 39) #[] #[.pointer (some ⟨w.heap.size, 0, none⟩)]) ∧ w' = w.alloc (.cells #[v] 22) := by
  have hmf : ∀ (fn : Fn) (first cap : Array Value) (w : World), (Instr.makeFunc fn first cap).run Tryd.prog w = .ok (.func fn first cap) w := fun _ _ _ _ => rfl
  go_enter Tryd.func21, Tryd.ntmps21
  go_wp2
  go_ret
  exact ⟨rfl, rfl⟩

set_option maxHeartbeats 1000000 in
theorem chosenB_any (gf : Nat) (lbT : Array Value) (gc : Nat) (lbC : Array Value) (w : World) :
    Calls Tryd.prog 19 #[.func (.func gf) #[] lbT, .func (.func gc) #[] lbC] w fun e w' => e = .returned (.func (.func 37) #[] #[.pointer (some ⟨w.heap.size, 0, none⟩), .pointer (some ⟨w.heap.size + 1, 0, none⟩)]) ∧ w' = (w.alloc (.cells #[.func (.func gf) #[] lbT] 50)).alloc (.cells #[.func (.func gc) #[] lbC] 53) := by
  have hmf : ∀ (fn : Fn) (first cap : Array Value) (w : World), (Instr.makeFunc fn first cap).run Tryd.prog w = .ok (.func fn first cap) w := fun _ _ _ _ => rfl
  go_enter Tryd.func19, Tryd.ntmps19
  go_wp2
  go_ret
  exact ⟨rfl, rfl⟩

set_option maxRecDepth 100000 in
set_option maxHeartbeats 2000000 in
theorem eachByte_itr (b : Nat) (s : ByteArray) (hs : s.size ≤ 1073741824) (rd : World → Prop) (hrd : ∀ W, rd W → Boxed W b 9 (.string s)) :
    Rng.Itr Tryd.prog 38 #[.pointer (some ⟨b, 0, none⟩)] encB (bs s) rd := by
  intro l J0 Jx0 W hJ0 hJx0 hJr0 hY0 h00
  obtain ⟨J, eJ⟩ : ∃ J, J = J0 W.heap.size := ⟨_, rfl⟩
  obtain ⟨Jx, eJx⟩ : ∃ Jx, Jx = Jx0 W.heap.size := ⟨_, rfl⟩
  have hJr : ∀ pre W1, J pre W1 → rd W1 := fun pre W1 h => hJr0 _ pre W1 (eJ ▸ h)
  have hY : ∀ m pre x W1, W.heap.size ≤ W1.heap.size → J pre W1 → pre ++ [x] <+: bs s → YieldAt Fence.wide m Tryd.prog l (encB x) W1 fun e W' =>
      W1.heap.size ≤ W'.heap.size ∧ ((e = .returned (.bool true) ∧ J (pre ++ [x]) W') ∨ (e = .returned (.bool false) ∧ Jx (pre ++ [x]) W')) := fun m pre x W1 h1 h2 h3 => by
    subst eJ eJx
    exact (hY0 m W.heap.size pre x W1 (Nat.le_refl _) h1 h2 h3).mono (fun e W' h => ⟨h.1.1, h.2⟩)
  have h0 : J [] W := eJ ▸ h00 _
  refine Calls.mono (R := fun e W' => (∃ v, e = .returned v) ∧ (J (bs s) W' ∨ ∃ pre, pre <+: bs s ∧ Jx pre W')) ?_ (fun e W' h => by subst eJ eJx; exact ⟨h.1, W.heap.size, Nat.le_refl _, h.2⟩)
  clear hJ0 hJx0 hJr0 hY0 h00 eJ eJx
  refine (callsIn_wide (n := 3)).1 ?_
  refine callsIn_of_wp Tryd.func38 rfl trivial ?_ rfl
  simp only [Tryd.ntmps38, List.size_toArray, List.length_cons, List.length_nil, Nat.reduceAdd, Nat.reduceSub, Array.replicate_succ, Array.replicate_zero, List.push_toArray, List.append_toArray, List.nil_append, List.cons_append]
  have HY := hide hY
  have HJr := hide hJr
  clear hY hJr
  gi_wp2
  gi_loopw [3] (fun i wr => ∃ k : Nat, i = .int .i64 k ∧ k ≤ s.size ∧ Hid (J ((bs s).take k) wr) ∧ W.heap.size ≤ wr.heap.size)
    (fun i _ => s.size - (intOf i).toNat)
  case atStart => exact ⟨0, rfl, Nat.zero_le _, (by rw [List.take_zero]; exact h0), Nat.le_refl _⟩
  case round =>
    obtain ⟨k, rfl, hk, hJw, hWs⟩ := hrel
    have hr1 := (hrd _ (unhide HJr _ _ (unhide hJw))).cell
    by_cases hlt : k < s.size
    · have hlt' : (k : Int) < (s.size : Int) := by omega
      have hx : Hid ((bs s).take (k + 1) = (bs s).take k ++ [s[k]]) := List.take_succ_eq_append_getElem (by simpa using hlt)
      obtain ⟨fn, tmps, assign, body, hy, hR⟩ := unhide HY 2 ((bs s).take k) s[k] wr hWs (unhide hJw) (by rw [← unhide hx]; exact List.take_prefix _ _)
      rw [encB] at hy
      gi_wp2
      refine hR.mono ?_
      rintro e W3 ⟨hW3, (⟨rfl, hJ3⟩ | ⟨rfl, hJx3⟩)⟩
      · have hJ3' := hide hJ3
        clear hJ3 hR hy hr1
        gi_wp2
        go_roundw
        case rel => exact ⟨k + 1, by go_num, by omega, (by rw [unhide hx]; exact hJ3'), Nat.le_trans hWs hW3⟩
        case measure => simp [intOf]; omega
      · have hJ3' := hide hJx3
        clear hJx3 hR hy hr1
        gi_wp2
        refine bodyPost_ret (results_none rfl _ _ _) rfl ?_
        exact ⟨⟨_, rfl⟩, .inr ⟨_, (by rw [← unhide hx]; exact List.take_prefix _ _), unhide hJ3'⟩⟩
    · obtain rfl : k = s.size := by omega
      have hx : Hid ((bs s).take s.size = bs s) := List.take_of_length_le (by simp)
      gi_wp2
      go_end0
      exact ⟨⟨_, rfl⟩, .inl (by rw [← unhide hx]; exact unhide hJw)⟩

theorem ownFrom_mono {β : Type} {B B' : Nat} {I : β → World → Prop} (h : OwnFrom B I) (hB : B ≤ B') : OwnFrom B' I :=
  fun s X Y row hs hg hr => h s X Y row hs hg (fun r e => ⟨Nat.le_trans hB (hr r e).1, (hr r e).2⟩)
theorem stays_boxed {B N : Nat} {X Y : World} (h : Rng.Stays B N X Y) {b : Nat} {t : TypeId} {v : Value} (hb : Boxed X b t v) (h1 : B ≤ b) (h2 : b < N) : Boxed Y b t v := (h.2 b h1 h2).trans hb
theorem boxed_below {X Y : World} {n : Nat} (h : Below n X Y) {b : Nat} {t : TypeId} {v : Value} (hb : Boxed X b t v) (h2 : b < n) : Boxed Y b t v := (h.block b h2).trans hb
theorem ownFrom_belowAll {β : Type} {B : Nat} {I : β → World → Prop} (h : OwnFrom B I) {s : β} {X Y : World} (hs : I s X) (hb : Below X.heap.size X Y) : I s Y :=
  h s X Y none hs ⟨hb.os, hb.tape, hb.output, hb.size, fun k hk _ => hb.block k hk⟩ (fun r e => by cases e)

set_option maxRecDepth 100000 in
set_option maxHeartbeats 2000000 in
theorem chosenB_itr (bT bC : Nat) (gf : Nat) (lbT : Array Value) (gc : Nat) (lbC : Array Value) (xs : List UInt8) (p : Nat → Bool) (rd : World → Prop)
    (hrd : ∀ W, rd W → Boxed W bT 50 (.func (.func gf) #[] lbT) ∧ Boxed W bC 53 (.func (.func gc) #[] lbC))
    (hit : Rng.Itr2 Tryd.prog gf lbT encB xs rd)
    (egf : ∀ args w, (callFunc gf args).run Tryd.prog w = .ok (.enter gf args) w) (egc : ∀ args w, (callFunc gc args).run Tryd.prog w = .ok (.enter gc args) w)
    (hc : ∀ (k : Nat) (W : World), k ≤ xs.length → rd W → Calls Tryd.prog gc (#[.int .i64 k] ++ lbC) W fun e W' => e = .returned (.bool (p k)) ∧ Below W.heap.size W W')
    (hxs : xs.length ≤ 1073741824) :
    Rng.Itr2 Tryd.prog 37 #[.pointer (some ⟨bT, 0, none⟩), .pointer (some ⟨bC, 0, none⟩)] encB (pick p 0 xs) rd := by
  intro lo J Jx w hJ hJx hJk hJr hY h0
  have hr0 := hrd _ (hJr 0 _ _ (h0 0))
  have HC := hide hc
  have HJ := hide hJ
  have HJx := hide hJx
  have HJr := hide hJr
  have HJk := hide hJk
  have HY := hide hY
  have H0 := hide h0
  have HRD := hide hrd
  have HIT := hide hit
  clear hc hJ hJx hJr hY h0 hJk hrd hit
  have hc1 := ((hr0.1.alloc (.cells #[.func (.yield lo) #[] #[]] 58)).alloc (.cells #[.int .i64 0] 3)).cell
  refine (callsIn_wide (n := 3)).1 ?_
  refine callsIn_of_wp_marks Tryd.func37 rfl trivial ?_ rfl
  simp only [Tryd.ntmps37, List.size_toArray, List.length_cons, List.length_nil, Nat.reduceAdd, Nat.reduceSub, Array.replicate_succ, Array.replicate_zero, List.push_toArray, List.append_toArray, List.nil_append, List.cons_append]
  gi_wp2
  have hr1 := hr0.1.cell
  clear hc1 hr1 hr0
  have bY := (Boxed.new w 58 (.func (.yield lo) #[] #[])).alloc (.cells #[.int .i64 0] 3)
  have bP := Boxed.new (w.alloc (.cells #[.func (.yield lo) #[] #[]] 58)) 3 (.int .i64 0)
  rw [World.size_alloc] at bP
  have H0' : Hid (∀ N, J N [] ((w.alloc (.cells #[.func (.yield lo) #[] #[]] 58)).alloc (.cells #[.int .i64 0] 3))) := fun N => (unhide HJ N).alloc _ ((unhide HJ N).alloc _ (unhide H0 N))
  have hsz : ((w.alloc (.cells #[.func (.yield lo) #[] #[]] 58)).alloc (.cells #[.int .i64 0] 3)).heap.size = w.heap.size + 2 := by simp
  generalize ((w.alloc (.cells #[.func (.yield lo) #[] #[]] 58)).alloc (.cells #[.int .i64 0] 3)) = W0 at *
  refine Rng.range2 (gf := gf) (lb := lbT) rfl egf (unhide HIT) (fun _ => rfl)
    (fun N pre W => J N (pick p 0 pre) W ∧ Boxed W w.heap.size 58 (.func (.yield lo) #[] #[]) ∧ Boxed W (w.heap.size + 1) 3 (.int .i64 pre.length))
    (fun N c pre W => Jx N (pick p 0 pre) W ∧ c = .ret)
    (fun N => OwnFrom.and (fun pre X Y row h1 hg hr => ownFrom_mono (unhide HJ N) (show w.heap.size ≤ W0.heap.size by omega) (pick p 0 pre) X Y row h1 hg hr) (OwnFrom.and (Own.from (boxed_own _ _ (fun _ => .func (.yield lo) #[] #[])) _) (Own.from (boxed_own _ _ (fun pre : List UInt8 => .int .i64 pre.length)) _)))
    (fun N c => OwnFrom.and (fun pre X Y row h1 hg hr => ownFrom_mono (unhide HJx N) (show w.heap.size ≤ W0.heap.size by omega) (pick p 0 pre) X Y row h1 hg hr) (ownFrom_pure _ _))
    (fun N pre W b v h1 h2 h => ⟨unhide HJk N _ W b v (by omega) h2 h.1, h.2.1.other (by omega) _, h.2.2.other (by omega) _⟩)
    (fun N pre W h => unhide HJr N _ _ h.1)
    (fun N => ⟨unhide H0' N, bY, bP⟩)
    (fun x => { tmps := #[.func (.yield lo) #[] #[], .pointer (some ⟨bT, 0, none⟩), .pointer (some ⟨bC, 0, none⟩), .pointer (some ⟨w.heap.size, 0, none⟩), .pointer (some ⟨w.heap.size + 1, 0, none⟩), .int .u8 x.toNat, .func (.func gf) #[] lbT, .int .u8 x.toNat, undef, undef, undef, undef, undef, undef, undef, undef, undef, undef, undef], defers := [] }) ?assign ?body ?done ?stop
  case assign =>
    intro m l x W K hK
    simp only [encB]
    gi_wp2
    exact hK
  case body =>
    rintro m l N pre x W ⟨hj, hY, hP⟩ hpre hN1 hN2
    rw [hsz] at hN1
    have hlen : pre.length + 1 ≤ xs.length := by have := hpre.length_le; simpa using this
    have hcP := hP.cell
    have hfP := hP.frozen
    obtain ⟨W1, hW1⟩ : ∃ W1, W1 = W.setCell ⟨w.heap.size + 1, 0, none⟩ (.int .i64 ((pre.length : Int) + 1)) := ⟨_, rfl⟩
    have hcast : ((pre.length + 1 : Nat) : Int) = (pre.length : Int) + 1 := by omega
    have hj1 : J N (pick p 0 pre) W1 := by rw [hW1]; exact unhide HJk N _ W _ _ (by omega) (by omega) hj
    have hP1 : Boxed W1 (w.heap.size + 1) 3 (.int .i64 ((pre.length : Int) + 1)) := by rw [hW1]; exact hP.set _
    have hY1 : Boxed W1 w.heap.size 58 (.func (.yield lo) #[] #[]) := by rw [hW1]; exact hY.other (by omega) _
    have hS1 : Rng.Stays W0.heap.size N W W1 := by rw [hW1]; exact Rng.Stays.set _ _ _ (by omega)
    have hrd1 := unhide HRD W1 (unhide HJr N _ _ hj1)
    have C := hide (unhide HC (pre.length + 1) W1 hlen (unhide HJr N _ _ hj1))
    rw [hcast] at C
    have hcC := hrd1.2.cell
    have hcP1 := hP1.cell
    have HJ1 := hide hj1
    clear hj hj1 hrd1 hcast
    have hsz1 := hS1.1
    have HW1 := hide hW1
    rw [hW1] at hcC hcP1
    clear hW1
    gi_wp2_with fail
    rw [← unhide HW1]
    refine ⟨trivial, fun h => absurd h (by simp [Fence.wide]), CallsIn.inRound l ((callsIn_wide.2 (unhide C)).mono ?_)⟩
    rintro e W2 ⟨rfl, hB2⟩
    have hN3 : N ≤ W2.heap.size := Nat.le_trans (Nat.le_trans hN2 hsz1) hB2.size
    have hj2 : J N (pick p 0 pre) W2 := ownFrom_belowAll (unhide HJ N) (unhide HJ1) hB2
    have hY2 : Boxed W2 w.heap.size 58 (.func (.yield lo) #[] #[]) := boxed_below hB2 hY1 (by omega)
    have hP2 : Boxed W2 (w.heap.size + 1) 3 (.int .i64 ((pre.length : Int) + 1)) := boxed_below hB2 hP1 (by omega)
    have hS2 : Rng.Stays W0.heap.size N W W2 := hS1.trans (Rng.Stays.below (hB2.mono (by omega)))
    clear C hcC hcP1 HJ1 HW1 hP1 hY1 hB2 hS1 hsz1 hcP hfP hY hP
    have hlen2 : (pre ++ [x]).length = pre.length + 1 := by simp
    cases hp : p (pre.length + 1)
    · have hsn : Hid (pick p 0 (pre ++ [x]) = pick p 0 pre) := by rw [pick_snoc, hp]; simp [Hid]
      have hj3 := hide hj2
      clear hp hj2
      gi_wp2
      refine ⟨fun _ h => (by cases h), ?_⟩
      gi_wp2
      refine ⟨hS2, by rw [unhide hsn]; exact unhide hj3, hY2, ?_⟩
      rw [hlen2]
      exact hP2
    · have hsn : Hid (pick p 0 (pre ++ [x]) = pick p 0 pre ++ [x]) := by rw [pick_snoc, hp]; simp [Hid]
      have hpre2 := pick_prefix p hpre
      rw [unhide hsn] at hpre2
      obtain ⟨fn, tmps, assign, body, hy, hRd⟩ := unhide HY (m - 1) N (pick p 0 pre) x W2 (by omega) hN3 hj2 hpre2
      rw [encB] at hy
      have hj3 := hide hj2
      have hcY := hY2.cell
      clear hp hj2
      gi_wp2
      refine ⟨fun h => absurd h (by simp [Fence.wide]), ?_⟩
      refine RoundIn.mono (F := Fence.wide.inRound l) hRd ?_
      rintro e W3 ⟨hSt, (⟨rfl, hJ3⟩ | ⟨rfl, hJx3⟩)⟩
      · have hJ3' : Hid (J N (pick p 0 pre ++ [x]) W3) := hJ3
        clear hJ3 hRd hy hcY
        gi_wp2
        refine ⟨hS2.trans (hSt.mono (by omega) (Nat.le_refl _)), by rw [unhide hsn]; exact unhide hJ3', stays_boxed hSt hY2 (by omega) (by omega), ?_⟩
        rw [hlen2]
        exact stays_boxed hSt hP2 (by omega) (by omega)
      · have hJ3' : Hid (Jx N (pick p 0 pre ++ [x]) W3) := hJx3
        clear hJx3 hRd hy hcY
        gi_wp2
        exact ⟨hS2.trans (hSt.mono (by omega) (Nat.le_refl _)), by rw [unhide hsn]; exact unhide hJ3', rfl⟩
  case done =>
    rintro N W hN ⟨hj, hY, hP⟩ hD
    gi_wp2
    refine ⟨by simp, .inl ⟨_, _, rfl, run_takeDeferred hD, ?_⟩⟩
    exact ⟨_, results_none (fn := Tryd.f37) rfl _ _ _, ⟨_, rfl⟩, N, by omega, .inl ((unhide HJ N).putObj _ hj (by omega) hD rfl)⟩
  case stop =>
    rintro N c pre W hN hpre ⟨hj, rfl⟩ hD
    gi_wp2
    refine ⟨by simp, .inl ⟨_, _, rfl, run_takeDeferred hD, ?_⟩⟩
    exact ⟨_, results_none (fn := Tryd.f37) rfl _ _ _, ⟨_, rfl⟩, N, by omega, .inr ⟨_, pick_prefix p hpre, (unhide HJx N).putObj _ hj (by omega) hD rfl⟩⟩

section boxes
variable {W w1 : World} {N : Nat} {e : TypeId} {size k m : Nat} {v v' : Value} {xs ys : List Value} {tmp : Obj}
theorem app_box {B : Nat} {t : TypeId} {u : Value} (hB : Boxed W B t u) (hlt : B < N) (hrow : W.ownsRow N e size v k xs) (hgrow : (W.alloc tmp).grownBy w1 v.ownBlock) : Boxed w1 B t u :=
  (hB.alloc tmp).kept hgrow (fun e => by have := hrow.lt _ e.symm; omega)
theorem app_stays {B : Nat} (hN : N ≤ W.heap.size) (hrow : W.ownsRow N e size v k xs) (hgrow : (W.alloc tmp).grownBy w1 v.ownBlock) : Rng.Stays B N W w1 :=
  (Rng.Stays.alloc W tmp hN).trans (Rng.Stays.grown hgrow (by simp; omega) (fun k ek => .inr (hrow.lt _ ek).1))
theorem app_below {w : World} {n₀ : Nat} (hB : Below n₀ w W) (hn : n₀ ≤ N) (hs : n₀ ≤ w.heap.size) (hrow : W.ownsRow N e size v k xs) (hgrow : (W.alloc tmp).grownBy w1 v.ownBlock) : Below n₀ w w1 :=
  (hB.alloc (Nat.le_trans hs hB.size) tmp).grown hgrow (by have := hB.size; simp; omega) (fun j ej => by have := hrow.lt _ ej; omega)
theorem own_set {B : Nat} {u : Value} (h : W.ownsRow N e size v k xs) (hlt : B < N) : (W.setCell ⟨B, 0, none⟩ u).ownsRow N e size v k xs :=
  h.kept (grownBy_setCell' W B u) (by
    rcases h.2 with ⟨rfl, _⟩ | ⟨g, cap, cur, rfl, hb, _, _⟩
    · exact .inl rfl
    · exact .inr (fun e' => by simp [Value.ownBlock] at e'; omega))
theorem own_base' {N' : Nat} (h : W.ownsRow N e size v k xs) (hle : N' ≤ N) : W.ownsRow N' e size v k xs := by
  refine ⟨h.1, ?_⟩
  rcases h.2 with h2 | ⟨g, cap, cur, h2, hb, h3⟩
  · exact .inl h2
  · exact .inr ⟨g, cap, cur, h2, Nat.le_trans hle hb, h3⟩
end boxes
def cellsB (pre : List UInt8) : List Value := Lib.byteCells pre
theorem cellsB_snoc (pre : List UInt8) (x : UInt8) : cellsB (pre ++ [x]) = cellsB pre ++ [.int .u8 x.toNat] := by simp [cellsB, Lib.byteCells]

set_option maxRecDepth 100000 in
set_option maxHeartbeats 2000000 in
theorem appendSeqB_any (gf : Nat) (lb : Array Value) (xs : List UInt8) (rd : World → Prop) (w : World) (eg : ∀ args w, (callFunc gf args).run Tryd.prog w = .ok (.enter gf args) w) (hit : Rng.Itr2 Tryd.prog gf lb encB xs rd)
    (hrd : ∀ W, Below w.heap.size w W → rd W) (hlen : xs.length ≤ 1073741824) :
    Calls Tryd.prog 36 #[.slice none 0 0, .func (.func gf) #[] lb] w fun e w' => ∃ v, e = .returned v ∧ w'.ownsRow w.heap.size 5 1 v xs.length (cellsB xs) ∧ Below w.heap.size w w' := by
  obtain ⟨i0, hi, hz0, hz1, hz2⟩ := info_parts Tryd.infoByte
  have HRD := hide hrd
  clear hrd
  refine (callsIn_wide (n := 3)).1 ?_
  refine callsIn_of_wp_marks Tryd.func36 rfl trivial ?_ rfl
  simp only [Tryd.ntmps36, List.size_toArray, List.length_cons, List.length_nil, Nat.reduceAdd, Nat.reduceSub, Array.replicate_succ, Array.replicate_zero, List.push_toArray, List.append_toArray, List.nil_append, List.cons_append]
  gi_wp2
  have bL := Boxed.new w 34 (.slice none 0 0)
  have hB0 : Below w.heap.size w (w.alloc (.cells #[.slice none 0 0] 34)) := (Below.refl _ w).alloc (Nat.le_refl _) _
  have hsz : (w.alloc (.cells #[.slice none 0 0] 34)).heap.size = w.heap.size + 1 := by simp
  generalize (w.alloc (.cells #[.slice none 0 0] 34)) = W0 at *
  refine Rng.range2 (gf := gf) (lb := lb) rfl eg hit (fun _ => rfl)
    (fun N pre W => (∃ v, Boxed W w.heap.size 34 v ∧ W.ownsRow N 5 1 v pre.length (cellsB pre) ∧ True) ∧ Below w.heap.size w W)
    (fun _ _ _ _ => False)
    (fun N => OwnFrom.and (Own.from (holdsRow_own N w.heap.size 34 5 1 (fun pre => pre.length) cellsB (fun _ _ => True)) _) (ownFrom_below (Nat.le_refl _) (by omega)))
    (fun _ _ _ _ _ _ hs _ _ => hs)
    (fun N pre W b v h1 h2 ⟨⟨u, hu, hr, _⟩, hB⟩ => ⟨⟨u, hu.other (by omega) _, own_set hr h2, trivial⟩, hB.setCell (p := ⟨b, 0, none⟩) (by simp; omega) _⟩)
    (fun _ _ _ h => unhide HRD _ h.2)
    (fun N => ⟨⟨_, bL, World.ownsRow_nil _ _ _ _, trivial⟩, hB0⟩)
    (fun x => { tmps := #[.slice none 0 0, .func (.func gf) #[] lb, .pointer (some ⟨w.heap.size, 0, none⟩), undef, .slice none 0 0, .int .u8 x.toNat, .func (.func gf) #[] lb, .int .u8 x.toNat, undef, undef, undef, undef, undef], defers := [] }) ?assign ?body ?done ?stop
  case assign =>
    intro m l x W K hK
    simp only [encB]
    gi_wp2
    exact hK
  case body =>
    rintro m l N pre x W ⟨⟨v, hv, hrow, _⟩, hB⟩ hpre hN1 hN2
    rw [hsz] at hN1
    have hc := hv.cell
    have hplt : pre.length + 1 ≤ 1073741824 := by have := hpre.length_le; simp at this; omega
    gi_wp2_with (gi_at_builtin; refine wpListIn_append_own _ rfl _ _ 34 rfl N 5 i0 _ 1 1 Tryd.underlying34 hi hz0 hz1 hz2 rfl (by decide) _ _ _ rfl (hrow.alloc _) ⟨W.heap.size, 0, none⟩ 1 1 [.int .u8 x.toNat] rfl rfl (cell_one_new _ _ _) (by simp [Value.oneCell']) (by unfold maxLen; omega) (by omega) (by simp; omega) ?_; intro v' w1 hown' hgrow _; obtain ⟨g', cap', rfl⟩ := ownsRow_succ hown'; have hv1 := app_box hv (by omega) hrow hgrow; have hK1 := app_stays (B := W0.heap.size) hN2 hrow hgrow; have hB1 := app_below hB (by omega) (Nat.le_refl _) hrow hgrow; have hc1 := hv1.cell; have hf1 := hv1.frozen)
    refine ⟨hK1.trans (Rng.Stays.set _ _ _ (by omega)), ⟨_, hv1.set _, ?_, trivial⟩, hB1.setCell (p := ⟨w.heap.size, 0, none⟩) (Nat.le_refl _) _⟩
    rw [cellsB_snoc, List.length_append]
    exact own_set hown' (by omega)
  case done =>
    rintro N W hN ⟨⟨v, hv, hrow, _⟩, hB⟩ hD
    have hc := hv.cell
    gi_wp2
    refine ⟨by simp, .inl ⟨_, _, rfl, run_takeDeferred hD, ?_⟩⟩
    exact ⟨_, results_tmp (fn := Tryd.f36) (t := 4) rfl _ _ _, v, rfl, own_base' (ownsRow_putObj hrow _ hD rfl) (by omega), hB.trans (belowK_b (w := w) (Nat.le_refl _) _ _ _ _ (by omega) hD rfl rfl)⟩
  case stop =>
    rintro N c pre W _ _ h _
    exact h.elim

set_option maxHeartbeats 1000000 in
theorem collectB_any (gf : Nat) (lb : Array Value) (xs : List UInt8) (rd : World → Prop) (w : World) (eg : ∀ args w, (callFunc gf args).run Tryd.prog w = .ok (.enter gf args) w) (hit : Rng.Itr2 Tryd.prog gf lb encB xs rd)
    (hrd : ∀ W, Below w.heap.size w W → rd W) (hlen : xs.length ≤ 1073741824) :
    Calls Tryd.prog 18 #[.func (.func gf) #[] lb] w fun e w' => ∃ v, e = .returned v ∧ w'.ownsRow w.heap.size 5 1 v xs.length (cellsB xs) ∧ Below w.heap.size w w' := by
  have H := hide (appendSeqB_any gf lb xs rd w eg hit hrd hlen)
  clear hit hrd eg
  go_enter Tryd.func18, Tryd.ntmps18
  go_wp2_with fail
  refine (unhide H).mono ?_
  rintro e w' ⟨v, rfl, hO, hB⟩
  go_wp2_with fail
  go_ret
  exact ⟨v, rfl, hO, hB⟩
end Go.Proofs.YtpfdjnnnemkoiabDoor.Cu
