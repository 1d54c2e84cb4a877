/- The iterator of the parts that are not empty. -/
import Derived.Test.YtmpppdbomdepoaaGreatDoorLnSplit
namespace Go.Proofs.YtmpppdbomdepoaaGreatDoor.Ln
open Go.RowKit Go.Shelf

attribute [local go_sem] Oper.semAt_some

def runsOf (l : List (List UInt8 × Bool)) : List (List UInt8) := (l.map (·.1)).filter (fun x => !x.isEmpty)
theorem runsOf_snoc_nil (pre : List (List UInt8 × Bool)) (b : Bool) : runsOf (pre ++ [([], b)]) = runsOf pre := by simp [runsOf]
theorem runsOf_snoc (pre : List (List UInt8 × Bool)) (x : List UInt8) (b : Bool) (h : x ≠ []) : runsOf (pre ++ [(x, b)]) = runsOf pre ++ [x] := by
  cases x with
  | nil => exact absurd rfl h
  | cons c x => simp [runsOf]
theorem runsOf_prefix {p q : List (List UInt8 × Bool)} (h : p <+: q) : runsOf p <+: runsOf q := by
  obtain ⟨r, rfl⟩ := h
  exact ⟨runsOf r, by simp [runsOf]⟩
def enc1 (x : List UInt8) : Array Value := #[.string (bt x)]

theorem ownFrom_mono {β : Type} {B B' : Nat} {I : β → World → Prop} (h : OwnFrom B I) (hB : B ≤ B') : OwnFrom B' I :=
  fun s X Y row hs hg hr => h s X Y row hs hg (fun r e => ⟨Nat.le_trans hB (hr r e).1, (hr r e).2⟩)
theorem stays_boxed {B N : Nat} {X Y : World} (h : Rng.Stays B N X Y) {b : Nat} {t : TypeId} {v : Value} (hb : Boxed X b t v) (h1 : B ≤ b) (h2 : b < N) : Boxed Y b t v := (h.2 b h1 h2).trans hb

/-- the iterator's value -/
def itr (bp bs : Nat) : Value := .func (.func 198) #[] #[.pointer (some ⟨bp, 0, none⟩), .pointer (some ⟨bs, 0, none⟩)]

set_option maxHeartbeats 1000000 in
theorem runs_any (gk : Nat) (lbk : Array Value) (s : ByteArray) (w : World) :
    Calls Tryz.prog 187 #[.agg #[.func (.func gk) #[] lbk], .string s] w fun e w' => e = .returned (itr w.heap.size (w.heap.size + 1)) ∧ w' = (w.alloc (.cells #[.func (.func gk) #[] lbk] 229)).alloc (.cells #[.string s] 9) := by
  have hmf : ∀ (fn : Fn) (first cap : Array Value) (w : World), (Instr.makeFunc fn first cap).run Tryz.prog w = .ok (.func fn first cap) w := fun _ _ _ _ => rfl
  go_enter Tryz.func187, Tryz.ntmps187
  go_wp2
  go_ret
  exact ⟨rfl, rfl⟩

set_option maxRecDepth 100000 in
set_option maxHeartbeats 2000000 in
theorem runs1_itr (bp bs : Nat) (s : ByteArray) (gk : Nat) (lbk : Array Value) (p : UInt8 → Bool) (hs : s.size ≤ 1073741824) (rd : World → Prop) (hrd : ∀ W, rd W → RdB bs bp s gk lbk W)
    (hdr : ∀ W q, rd W → rd (W.drewN q))
    (hen : ∀ args w, (callFunc gk args).run Tryz.prog w = .ok (.enter gk args) w)
    (hc : ∀ (c : UInt8) (W : World), rd W → Calls Tryz.prog gk (#[.int .u8 c.toNat] ++ lbk) W fun e W' => e = .returned (.bool (p c)) ∧ W' = W) :
    Rng.Itr Tryz.prog 198 #[.pointer (some ⟨bp, 0, none⟩), .pointer (some ⟨bs, 0, none⟩)] enc1 (runsOf (parts p s.data.toList)) rd := by
  intro lo J Jx w hJ hJx hJr hY h0
  have hr0 := hrd _ (hJr 0 _ _ (h0 0))
  have hc1 := (hr0.1.alloc (.cells #[.func (.yield lo) #[] #[]] 246)).cell
  have hc2 := (hr0.2.alloc (.cells #[.func (.yield lo) #[] #[]] 246)).cell
  have HC := hide hc
  clear hc
  have HJ := hide hJ
  have HJx := hide hJx
  have HJr := hide hJr
  have HY := hide hY
  have H0 := hide h0
  clear hJ hJx hJr hY h0
  refine (callsIn_wide (n := 3)).1 ?_
  refine callsIn_of_wp_marks Tryz.func198 rfl trivial ?_ rfl
  simp only [Tryz.ntmps198, List.size_toArray, List.length_cons, List.length_nil, Nat.reduceAdd, Nat.reduceSub, Array.replicate_succ, Array.replicate_zero, List.push_toArray, List.append_toArray, List.nil_append, List.cons_append]
  gi_wp2_with (refine ⟨trivial, ?_⟩; gi_at_call 189; refine (callsIn_wide.2 (each_any _ _ _ _)).mono ?_; rintro e w' ⟨rfl, rfl⟩)
  clear hc1 hc2 hr0
  have bY := ((Boxed.new w 246 (.func (.yield lo) #[] #[])).alloc (.cells #[.func (.func gk) #[] lbk] 229)).alloc (.cells #[.string s] 9)
  have bP := (Boxed.new (w.alloc (.cells #[.func (.yield lo) #[] #[]] 246)) 229 (.func (.func gk) #[] lbk)).alloc (.cells #[.string s] 9)
  have bS := Boxed.new ((w.alloc (.cells #[.func (.yield lo) #[] #[]] 246)).alloc (.cells #[.func (.func gk) #[] lbk] 229)) 9 (.string s)
  rw [World.size_alloc] at bP
  rw [World.size_alloc, World.size_alloc] at bS
  have H0' : Hid (∀ N, J N [] (((w.alloc (.cells #[.func (.yield lo) #[] #[]] 246)).alloc (.cells #[.func (.func gk) #[] lbk] 229)).alloc (.cells #[.string s] 9))) := fun N => (unhide HJ N).alloc _ ((unhide HJ N).alloc _ ((unhide HJ N).alloc _ (unhide H0 N)))
  have hsz : (((w.alloc (.cells #[.func (.yield lo) #[] #[]] 246)).alloc (.cells #[.func (.func gk) #[] lbk] 229)).alloc (.cells #[.string s] 9)).heap.size = w.heap.size + 3 := by simp
  generalize (((w.alloc (.cells #[.func (.yield lo) #[] #[]] 246)).alloc (.cells #[.func (.func gk) #[] lbk] 229)).alloc (.cells #[.string s] 9)) = W0 at *
  refine Rng.range (gf := 199) (lb := #[.pointer (some ⟨w.heap.size + 2, 0, none⟩), .pointer (some ⟨w.heap.size + 1, 0, none⟩)]) rfl (enters_of Tryz.func199 (by kernel_rfl) rfl)
    (each1_itr (w.heap.size + 2) (w.heap.size + 1) s gk lbk p hs (fun W => RdB (w.heap.size + 2) (w.heap.size + 1) s gk lbk W ∧ rd W) (fun W h => ⟨h.1.1.cell, h.1.2.cell⟩) (fun W q h => ⟨h.1, hdr W q h.2⟩) hen (fun c W h => unhide HC c W h.2)) (fun _ => rfl)
    (fun N pre W => J N (runsOf pre) W ∧ Boxed W w.heap.size 246 (.func (.yield lo) #[] #[]) ∧ RdB (w.heap.size + 2) (w.heap.size + 1) s gk lbk W)
    (fun N c pre W => Jx N (runsOf pre) W ∧ c = .ret)
    (fun N => OwnFrom.and (fun pre X Y row h1 hg hr => ownFrom_mono (unhide HJ N) (show w.heap.size ≤ W0.heap.size by omega) (runsOf pre) X Y row h1 hg hr) (OwnFrom.and (Own.from (boxed_own _ _ (fun _ => .func (.yield lo) #[] #[])) _) (OwnFrom.and (Own.from (boxed_own _ _ (fun _ => .string s)) _) (Own.from (boxed_own _ _ (fun _ => .func (.func gk) #[] lbk)) _))))
    (fun N c => OwnFrom.and (fun pre X Y row h1 hg hr => ownFrom_mono (unhide HJx N) (show w.heap.size ≤ W0.heap.size by omega) (runsOf pre) X Y row h1 hg hr) (ownFrom_pure _ _))
    (fun N pre W h => ⟨h.2.2, unhide HJr N _ _ h.1⟩)
    (fun N => ⟨unhide H0' N, bY, bS, bP⟩)
    (fun x => { tmps := #[.func (.yield lo) #[] #[], .pointer (some ⟨bp, 0, none⟩), .pointer (some ⟨bs, 0, none⟩), .pointer (some ⟨w.heap.size, 0, none⟩), .string (bt x.1), .agg #[.func (.func gk) #[] lbk], .string s, itv (w.heap.size + 2) (w.heap.size + 1), .string (bt x.1), .bool x.2, undef, undef, undef, undef, undef, undef, undef, undef], defers := [] }) ?assign ?body ?done ?stop
  case assign =>
    intro m l x W K hK
    simp only [enc]
    gi_wp2
    exact hK
  case body =>
    rintro m l N pre ⟨x, b⟩ W ⟨hj, hY, hR⟩ hpre hN1 hN2
    rw [hsz] at hN1
    have hcY := hY.cell
    cases x with
    | nil =>
      have hbt : bt [] = { data := #[] } := rfl
      gi_wp2
      refine ⟨fun _ h => (by cases h), ?_⟩
      gi_wp2
      exact ⟨Rng.Stays.refl _ _ _, by rw [runsOf_snoc_nil]; exact hj, hY, hR⟩
    | cons c x =>
      have hx : (c :: x) ≠ [] := by simp
      have hpre2 := runsOf_prefix hpre
      rw [runsOf_snoc pre (c :: x) b hx] at hpre2
      have hne : (bt (c :: x)).toList.isEmpty = false := by rw [ByteArray.toList_eq]; rfl
      obtain ⟨fn, tmps, assign, body, hy, hRd⟩ := unhide HY (m - 1) N (runsOf pre) (c :: x) W (by omega) hN2 hj hpre2
      rw [enc1] at hy
      have hj' := hide hj
      clear hj
      gi_wp2
      refine ⟨fun h => absurd h (by simp [Fence.wide]), ?_⟩
      refine RoundIn.mono (F := Fence.wide.inRound l) hRd ?_
      rintro e W3 ⟨hSt, (⟨rfl, hJ3⟩ | ⟨rfl, hJx3⟩)⟩
      · have hJ3' : Hid (J N (runsOf pre ++ [c :: x]) W3) := hJ3
        clear hJ3 hRd hy
        gi_wp2
        refine ⟨hSt.mono (by omega) (Nat.le_refl _), by rw [runsOf_snoc pre (c :: x) b hx]; exact unhide hJ3', stays_boxed hSt hY (by omega) (by omega), stays_boxed hSt hR.1 (by omega) (by omega), stays_boxed hSt hR.2 (by omega) (by omega)⟩
      · have hJ3' : Hid (Jx N (runsOf pre ++ [c :: x]) W3) := hJx3
        clear hJx3 hRd hy
        gi_wp2
        exact ⟨hSt.mono (by omega) (Nat.le_refl _), by rw [runsOf_snoc pre (c :: x) b hx]; exact unhide hJ3', rfl⟩
  case done =>
    rintro N W hN ⟨hj, hY, hR⟩ hD
    gi_wp2
    refine ⟨by simp, .inl ⟨_, _, rfl, run_takeDeferred hD, ?_⟩⟩
    exact ⟨_, results_none (fn := Tryz.f198) rfl _ _ _, ⟨_, rfl⟩, N, by omega, .inl ((unhide HJ N).putObj _ hj (by omega) hD rfl)⟩
  case stop =>
    rintro N c pre W hN hpre ⟨hj, rfl⟩ hD
    gi_wp2
    refine ⟨by simp, .inl ⟨_, _, rfl, run_takeDeferred hD, ?_⟩⟩
    exact ⟨_, results_none (fn := Tryz.f198) rfl _ _ _, ⟨_, rfl⟩, N, by omega, .inr ⟨_, runsOf_prefix hpre, (unhide HJx N).putObj _ hj (by omega) hD rfl⟩⟩

end Go.Proofs.YtmpppdbomdepoaaGreatDoor.Ln
