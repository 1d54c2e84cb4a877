/- The iterator of a text's parts: what it gives, to whatever loop. -/
import Derived.Test.YtmpppdbomdepoaaGreatDoorRows
import Derived.Test.YtmpppdbomdepoaaGreatDoorRng
import Derived.Test.YtmpppdbomdepoaaGreatDoorLnPlain
import Derived.Shelf.Abstract
import Derived.WalkKit
import Derived.OwnWalkIn
import Derived.TacticsInMore
import Derived.LoopNIn
import Derived.LoopIn
import Derived.BigQuiet
namespace Go.Proofs.YtmpppdbomdepoaaGreatDoor.Ln
open Go.RowKit Go.Shelf

attribute [local go_sem] Oper.semAt_some

theorem hide {p : Prop} (h : p) : Hid p := h
theorem unhide {p : Prop} (h : Hid p) : p := h.out

def bt (l : List UInt8) : ByteArray := ⟨l.toArray⟩
/-- a part, as the iterator hands it on -/
def enc (q : List UInt8 × Bool) : Array Value := #[.string (bt q.1), .bool q.2]

theorem bt_extract (s : ByteArray) (i j : Nat) : s.extract i j = bt ((s.data.toList.drop i).take (j - i)) := by
  apply ByteArray.ext
  simp [bt, ByteArray.data_extract]
  apply Array.ext'
  simp [List.extract_eq_take_drop]

theorem grown_drewN (w : World) (q : Nat) (row : Option Nat) : w.grownBy (w.drewN q) row := ⟨rfl, rfl, rfl, Nat.le_refl _, fun _ _ _ => rfl⟩
/-- what the iterator reads: the text, and the function that says which bytes count -/
def Rd (bs bp : Nat) (s : ByteArray) (gk : Nat) (lbk : Array Value) (W : World) : Prop :=
  W.cell? ⟨bs, 0, none⟩ = some (.string s) ∧ W.cell? ⟨bp, 0, none⟩ = some (.func (.func gk) #[] lbk)

theorem parts_go {p : UInt8 → Bool} {l : List UInt8} {pre : List (List UInt8 × Bool)} {from' i : Nat} (h : parts p l = pre ++ parts p (l.drop from')) (hfi : from' ≤ i) (hil : i < l.length) (hcl : ∀ c ∈ (l.drop from').take (i - from'), p c = false) (hp : p l[i] = true) :
    parts p l = (pre ++ [((l.drop from').take (i - from'), true)]) ++ parts p (l.drop (i + 1)) := by
  have e : l.drop from' = (l.drop from').take (i - from') ++ l[i] :: l.drop (i + 1) := by
    have h1 := (List.take_append_drop (i - from') (l.drop from')).symm
    rwa [List.drop_drop, show from' + (i - from') = i by omega, List.drop_eq_getElem_cons hil] at h1
  rw [h, e, parts_hit _ _ _ hcl hp]
  rw [← e]
  simp
theorem take_more {p : UInt8 → Bool} {l : List UInt8} {from' i : Nat} (hfi : from' ≤ i) (hil : i < l.length) (hcl : ∀ c ∈ (l.drop from').take (i - from'), p c = false) (hp : p l[i] = false) : ∀ c ∈ (l.drop from').take (i + 1 - from'), p c = false := by
  intro c hc
  rw [show i + 1 - from' = (i - from') + 1 by omega, List.take_add_one] at hc
  rcases List.mem_append.1 hc with hc | hc
  · exact hcl c hc
  · rw [List.getElem?_drop, show from' + (i - from') = i by omega, List.getElem?_eq_getElem hil] at hc
    simp at hc
    subst hc
    exact hp

set_option maxRecDepth 100000 in
set_option maxHeartbeats 2000000 in
theorem each1_itr (bs bp : Nat) (s : ByteArray) (gk : Nat) (lbk : Array Value) (p : UInt8 → Bool) (hs : s.size ≤ 1073741824) (rd : World → Prop) (hrd : ∀ W, rd W → Rd bs bp s gk lbk W)
    (hdr : ∀ W q, rd W → rd (W.drewN q))
    (hen : ∀ args w, (callFunc gk args).run Tryz.prog w = .ok (.enter gk args) w)
    (hc : ∀ (c : UInt8) (W : World), rd W → Calls Tryz.prog gk (#[.int .u8 c.toNat] ++ lbk) W fun e W' => e = .returned (.bool (p c)) ∧ W' = W) :
    Rng.Itr Tryz.prog 199 #[.pointer (some ⟨bs, 0, none⟩), .pointer (some ⟨bp, 0, none⟩)] enc (parts p s.data.toList) rd := by
  intro l J0 Jx0 W hJ0 hJx0 hJr0 hY0 h00
  obtain ⟨J, eJ⟩ : ∃ J, J = J0 W.heap.size := ⟨_, rfl⟩
  obtain ⟨Jx, eJx⟩ : ∃ Jx, Jx = Jx0 W.heap.size := ⟨_, rfl⟩
  have hJ : OwnFrom W.heap.size J := eJ ▸ hJ0 W.heap.size
  have hJr : ∀ pre W1, J pre W1 → rd W1 := fun pre W1 h => hJr0 _ pre W1 (eJ ▸ h)
  have hY : ∀ m pre x W1, W.heap.size ≤ W1.heap.size → J pre W1 → pre ++ [x] <+: parts p s.data.toList → YieldAt Fence.wide m Tryz.prog l (enc x) W1 fun e W' =>
      W1.heap.size ≤ W'.heap.size ∧ ((e = .returned (.bool true) ∧ J (pre ++ [x]) W') ∨ (e = .returned (.bool false) ∧ Jx (pre ++ [x]) W')) := fun m pre x W1 h1 h2 h3 => by
    subst eJ eJx
    exact (hY0 m W.heap.size pre x W1 (Nat.le_refl _) h1 h2 h3).mono (fun e W' h => ⟨h.1.1, h.2⟩)
  have h0 : J [] W := eJ ▸ h00 _
  refine Calls.mono (R := fun e W' => (∃ v, e = .returned v) ∧ (J (parts p s.data.toList) W' ∨ ∃ pre, pre <+: parts p s.data.toList ∧ Jx pre W')) ?_ (fun e W' h => by subst eJ eJx; exact ⟨h.1, W.heap.size, Nat.le_refl _, h.2⟩)
  clear hJ0 hJx0 hJr0 hY0 h00 eJ eJx
  refine (callsIn_wide (n := 3)).1 ?_
  refine callsIn_of_wp Tryz.func199 rfl trivial ?_ rfl
  simp only [Tryz.ntmps199, List.size_toArray, List.length_cons, List.length_nil, Nat.reduceAdd, Nat.reduceSub, Array.replicate_succ, Array.replicate_zero, List.push_toArray, List.append_toArray, List.nil_append, List.cons_append]
  have HY := hide hY
  have HJ := hide hJ
  have HJr := hide hJr
  have HC := hide hc
  clear hY hJ hJr hc
  gi_wp2
  gi_loopw [4, 5] (fun f i wr => ∃ (a b : Nat) (pre : List (List UInt8 × Bool)), f = .int .i64 a ∧ i = .int .i64 b ∧ a ≤ b ∧ b ≤ s.size ∧ Hid (parts p s.data.toList = pre ++ parts p (s.data.toList.drop a)) ∧ Hid (∀ c ∈ (s.data.toList.drop a).take (b - a), p c = false) ∧ Hid (J pre wr) ∧ W.heap.size ≤ wr.heap.size)
    (fun _ i _ => s.size - (intOf i).toNat)
  case atStart => exact ⟨0, 0, [], rfl, rfl, Nat.le_refl _, Nat.zero_le _, rfl, (fun c hc => by simp at hc), h0, Nat.le_refl _⟩
  case round =>
    obtain ⟨a, b, pre, rfl, rfl, hab, hbs, hparts, hclean, hJw, hWs⟩ := hrel
    obtain ⟨hr1, hr2⟩ := hrd _ (unhide HJr _ _ (unhide hJw))
    by_cases hlt : b < s.size
    · have hlt' : (b : Int) < (s.size : Int) := by omega
      have hll : b < s.data.toList.length := hlt
      have HCq : Hid (∀ q, Calls Tryz.prog gk (#[.int .u8 s[b].toNat] ++ lbk) (wr.drewN q) fun e W' => e = .returned (.bool (p s[b])) ∧ W' = wr.drewN q) := fun q => unhide HC s[b] (wr.drewN q) (hdr _ _ (unhide HJr _ _ (unhide hJw)))
      have hgt : s.data.toList[b] = s[b] := rfl
      cases hp : p s[b]
      · rw [hp] at HCq
        have hcl2 : Hid (∀ c ∈ (s.data.toList.drop a).take (b + 1 - a), p c = false) := take_more hab hll (unhide hclean) hp
        clear hclean hp
        gi_wp2
        refine wpIn_wide.2 ?_
        go_quiet ((go_at_fn gk; exact Calls.quiet_of_same (unhide HCq _)))
        gi_wp2
        go_roundw
        case rel => exact ⟨a, b + 1, pre, rfl, by go_num, by omega, by omega, hparts, hcl2, unhide HJ _ _ _ none (unhide hJw) (grown_drewN _ _ _) (fun r e => by cases e), hWs⟩
        case measure => simp [intOf]; omega
      · rw [hp] at HCq
        have hx := hide (parts_go (unhide hparts) hab hll (unhide hclean) hp)
        clear hp
        gi_wp2
        refine wpIn_wide.2 ?_
        go_quiet ((go_at_fn gk; exact Calls.quiet_of_same (unhide HCq _)))
        have hJq : Hid (J pre (wr.drewN nq)) := unhide HJ _ _ _ none (unhide hJw) (grown_drewN _ _ _) (fun r e => by cases e)
        obtain ⟨fn, tmps, assign, body, hy, hR⟩ := unhide HY 2 pre ((s.data.toList.drop a).take (b - a), true) (wr.drewN nq) hWs (unhide hJq) (by rw [unhide hx]; exact List.prefix_append _ _)
        rw [enc, ← bt_extract] at hy
        gi_wp2
        refine hR.mono ?_
        rintro e W3 ⟨hW3, (⟨rfl, hJ3⟩ | ⟨rfl, hJx3⟩)⟩
        · have hJ3' := hide hJ3
          clear hJ3 hR hy hJq HCq hparts hclean hr1 hr2
          gi_wp2
          go_roundw
          case rel => exact ⟨b + 1, b + 1, pre ++ [((s.data.toList.drop a).take (b - a), true)], by go_num, by go_num, Nat.le_refl _, by omega, hx, (fun c hc => by simp at hc), hJ3', Nat.le_trans hWs hW3⟩
          case measure => simp [intOf]; omega
        · have hJ3' : Hid (Jx (pre ++ [((s.data.toList.drop a).take (b - a), true)]) W3) := hJx3
          clear hJx3 hR hy hJq HCq hparts hclean hr1 hr2
          gi_wp2
          refine bodyPost_ret (results_none rfl _ _ _) rfl ?_
          exact ⟨⟨_, rfl⟩, .inr ⟨_, (by rw [unhide hx]; exact List.prefix_append _ _), unhide hJ3'⟩⟩
    · obtain rfl : b = s.size := by omega
      by_cases hfs : a < s.size
      · have hfs' : (a : Int) < (s.size : Int) := by omega
        have hx : Hid (parts p s.data.toList = pre ++ [(s.data.toList.drop a, false)]) := by
          show _ = _
          rw [unhide hparts, parts_end (s.data.toList.drop a)]
          · intro c hc
            refine unhide hclean c ?_
            rwa [List.take_of_length_le (by rw [List.length_drop]; exact Nat.le_refl _)]
          · intro e
            have := congrArg List.length e
            rw [List.length_drop] at this
            have h2 : s.data.toList.length = s.size := rfl
            simp at this
            omega
        obtain ⟨fn, tmps, assign, body, hy, hR⟩ := unhide HY 2 pre (s.data.toList.drop a, false) wr hWs (unhide hJw) (by rw [unhide hx]; exact List.prefix_refl _)
        rw [enc, show bt (s.data.toList.drop a, false).1 = s.extract a s.size from by rw [bt_extract]; congr 1; rw [List.take_of_length_le (by rw [List.length_drop]; exact Nat.le_refl _)]] at hy
        gi_wp2
        refine hR.mono ?_
        rintro e W3 ⟨hW3, (⟨rfl, hJ3⟩ | ⟨rfl, hJx3⟩)⟩
        · have hJ3' := hide hJ3
          clear hJ3 hR hy
          gi_wp2
          go_end0
          exact ⟨⟨_, rfl⟩, .inl (by rw [unhide hx]; exact unhide hJ3')⟩
        · have hJ3' := hide hJx3
          clear hJx3 hR hy
          gi_wp2
          go_end0
          exact ⟨⟨_, rfl⟩, .inr ⟨_, (by rw [unhide hx]; exact List.prefix_refl _), unhide hJ3'⟩⟩
      · have hx : Hid (parts p s.data.toList = pre) := by
          show _ = _
          rw [unhide hparts, List.drop_eq_nil_of_le (by have h2 : s.data.toList.length = s.size := rfl; omega), parts_nil, List.append_nil]
        gi_wp2
        go_end0
        exact ⟨⟨_, rfl⟩, .inl (by rw [unhide hx]; exact unhide hJw)⟩

end Go.Proofs.YtmpppdbomdepoaaGreatDoor.Ln
