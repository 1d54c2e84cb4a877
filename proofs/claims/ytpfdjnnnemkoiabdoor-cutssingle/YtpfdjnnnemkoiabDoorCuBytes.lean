/- What Bytes answers. -/
import Derived.Test.YtpfdjnnnemkoiabDoorCuIter
import Derived.Test.YtpfdjnnnemkoiabDoorCuList
import Derived.Test.YtpfdjnnnemkoiabDoorCuExp
namespace Go.Proofs.YtpfdjnnnemkoiabDoor.Cu
open Go.RowKit Go.Shelf
open Ls (R Rg has)

attribute [local go_sem] Oper.semAt_some

/-- places of a list -/
def inL (rs : List R) (k : Nat) : Bool := has rs (k : Int)

theorem listed1_any (b : Nat) (a : Option Addr) (n cap c' : Nat) (rs : List R) (k : Nat) (w : World) (hb : Boxed w b 22 (.slice a n cap)) (h : Rg w a n c' rs) (hn : n ≤ 4611686018427387904) :
    Calls Tryd.prog 39 #[.int .i64 k, .pointer (some ⟨b, 0, none⟩)] w fun e w' => e = .returned (.bool (inL rs k)) ∧ Below w.heap.size w w' := by
  have H := hide (Ls.has_any a n cap c' rs (k : Int) w h hn)
  have hc := hb.cell
  go_enter Tryd.func39, Tryd.ntmps39
  go_wp2_with fail
  refine (unhide H).mono ?_
  rintro e w' ⟨rfl, hB⟩
  go_wp2_with fail
  go_ret
  exact ⟨rfl, hB⟩

set_option maxRecDepth 100000 in
set_option maxHeartbeats 1000000 in
theorem bytes_any (s : ByteArray) (a : Option Addr) (n cap c' : Nat) (rs : List R) (w : World) (h : Rg w a n c' rs) (hn : n ≤ 4611686018427387904) (hs : s.size ≤ 1073741824) :
    Calls Tryd.prog 9 #[.string s, .slice a n cap] w fun e w' => e = .returned (.string (bt (pick (inL rs) 0 (bs s)))) ∧ Below w.heap.size w w' := by
  have HR := hide h
  clear h
  go_enter Tryd.func9, Tryd.ntmps9
  go_wp2_with (first
    | (go_at_call 20; refine (eachByte_any _ _).mono ?_; rintro e w' ⟨rfl, rfl⟩)
    | (go_at_call 21; refine (listed_any _ rfl _).mono ?_; rintro e w' ⟨rfl, rfl⟩)
    | (go_at_call 19; refine (chosenB_any _ _ _ _ _).mono ?_; rintro e w' ⟨rfl, rfl⟩))
  obtain ⟨F1, hF1⟩ : ∃ v : Value, v = .func (.func 38) #[] #[.pointer (some ⟨w.heap.size, 0, none⟩)] := ⟨_, rfl⟩
  obtain ⟨F2, hF2⟩ : ∃ v : Value, v = .func (.func 39) #[] #[.pointer (some ⟨w.heap.size + 1, 0, none⟩)] := ⟨_, rfl⟩
  rw [← hF1, ← hF2]
  have b1 := (((Boxed.new w 9 (.string s)).alloc (.cells #[.slice a n cap] 22)).alloc (.cells #[F1] 50)).alloc (.cells #[F2] 53)
  have b2 := ((Boxed.new (w.alloc (.cells #[.string s] 9)) 22 (.slice a n cap)).alloc (.cells #[F1] 50)).alloc (.cells #[F2] 53)
  have b3 := (Boxed.new ((w.alloc (.cells #[.string s] 9)).alloc (.cells #[.slice a n cap] 22)) 50 F1).alloc (.cells #[F2] 53)
  have b4 := Boxed.new (((w.alloc (.cells #[.string s] 9)).alloc (.cells #[.slice a n cap] 22)).alloc (.cells #[F1] 50)) 53 F2
  have hB0 : Below w.heap.size w ((((w.alloc (.cells #[.string s] 9)).alloc (.cells #[.slice a n cap] 22)).alloc (.cells #[F1] 50)).alloc (.cells #[F2] 53)) := ((((Below.refl _ w).alloc (Nat.le_refl _) _).alloc (by simp) _).alloc (by simp; omega) _).alloc (by simp; omega) _
  have hsz : ((((w.alloc (.cells #[.string s] 9)).alloc (.cells #[.slice a n cap] 22)).alloc (.cells #[F1] 50)).alloc (.cells #[F2] 53)).heap.size = w.heap.size + 4 := by simp
  simp only [World.size_alloc] at b1 b2 b3 b4
  generalize ((((w.alloc (.cells #[.string s] 9)).alloc (.cells #[.slice a n cap] 22)).alloc (.cells #[F1] 50)).alloc (.cells #[F2] 53)) = W0 at *
  subst hF1 hF2
  have hR0 : Rg W0 a n c' rs := (unhide HR).below hB0
  have hlen : (pick (inL rs) 0 (bs s)).length ≤ 1073741824 := Nat.le_trans (pick_len _ _ _) hs
  have H := hide (collectB_any 37 _ (pick (inL rs) 0 (bs s)) (fun W => Boxed W w.heap.size 9 (.string s) ∧ Boxed W (w.heap.size + 1) 22 (.slice a n cap) ∧ Boxed W (w.heap.size + 1 + 1) 50 (.func (.func 38) #[] #[.pointer (some ⟨w.heap.size, 0, none⟩)]) ∧ Boxed W (w.heap.size + 1 + 1 + 1) 53 (.func (.func 39) #[] #[.pointer (some ⟨w.heap.size + 1, 0, none⟩)]) ∧ Rg W a n c' rs) W0
    (enters_of Tryd.func37 (by kernel_rfl) rfl)
    (chosenB_itr (w.heap.size + 1 + 1) (w.heap.size + 1 + 1 + 1) 38 #[.pointer (some ⟨w.heap.size, 0, none⟩)] 39 #[.pointer (some ⟨w.heap.size + 1, 0, none⟩)] (bs s) (inL rs) _
      (fun W h => ⟨h.2.2.1, h.2.2.2.1⟩)
      (eachByte_itr w.heap.size s hs _ (fun W h => h.1)).two
      (enters_of Tryd.func38 (by kernel_rfl) rfl) (enters_of Tryd.func39 (by kernel_rfl) rfl)
      (fun k W _ h => listed1_any (w.heap.size + 1) a n cap c' rs k W h.2.1 h.2.2.2.2 hn) (by rw [bs_len]; exact hs))
    (fun W h => ⟨boxed_below h b1 (by omega), boxed_below h b2 (by omega), boxed_below h b3 (by omega), boxed_below h b4 (by omega), hR0.below h⟩) hlen)
  refine (unhide H).mono ?_
  rintro e w' ⟨v, rfl, hO, hB⟩
  clear H b1 b2 b3 b4
  have hBw : Below w.heap.size w w' := hB0.trans (hB.mono hB0.size)
  have hcv := cv_back (W := w') (pick (inL rs) 0 (bs s)) hO
  go_wp2_with fail
  go_ret
  exact ⟨rfl, hBw⟩
end Go.Proofs.YtpfdjnnnemkoiabDoor.Cu
