/- The document's number, count and text. -/
import Derived.Test.YtbofidpoajdcmaaGreatDoorCdPut
import Derived.Maps.AppendAt
import Derived.Lib.AppendStr
namespace Go.Proofs.YtbofidpoajdcmaaGreatDoor.Cd
open Go.RowKit Cu Tr

/-- all but one row is as it was; that row lies where it lay, or anew -/
structure Gk (w w' : World) (o o' : Option Nat) : Prop where
  os : w'.os = w.os
  tape : w'.tape = w.tape
  output : w'.output = w.output
  size : w.heap.size ≤ w'.heap.size
  block : ∀ k, k < w.heap.size → some k ≠ o → w'.heap[k]? = w.heap[k]?
  at' : o' = o ∨ ∃ k, o' = some k ∧ w.heap.size ≤ k
theorem Gk.refl (w : World) (o : Option Nat) : Gk w w o o := ⟨rfl, rfl, rfl, Nat.le_refl _, fun _ _ _ => rfl, .inl rfl⟩
theorem Gk.trans {w w' w'' : World} {o o' o'' : Option Nat} (h : Gk w w' o o') (h' : Gk w' w'' o' o'') : Gk w w'' o o'' := by
  refine ⟨h'.os.trans h.os, h'.tape.trans h.tape, h'.output.trans h.output, Nat.le_trans h.size h'.size, ?_, ?_⟩
  · intro k hk ho
    refine (h'.block k (Nat.lt_of_lt_of_le hk h.size) ?_).trans (h.block k hk ho)
    rcases h.at' with e | ⟨j, e, hj⟩
    · rw [e]; exact ho
    · rw [e]; intro e2; injection e2 with e2; omega
  · rcases h'.at' with e | ⟨j, e, hj⟩
    · rw [e]; exact h.at'
    · exact .inr ⟨j, e, Nat.le_trans h.size hj⟩
theorem Gk.of_below {w w' : World} {o : Option Nat} (h : Below w.heap.size w w') : Gk w w' o o := ⟨h.os, h.tape, h.output, h.size, fun k hk _ => h.block k hk, .inl rfl⟩
theorem Gk.of_grown {w w' : World} {o o' : Option Nat} (h : w.grownBy w' o) (ha : o' = o ∨ o' = some w.heap.size) : Gk w w' o o' :=
  ⟨h.os, h.tape, h.output, h.size, h.block, ha.imp id (fun e => ⟨_, e, Nat.le_refl _⟩)⟩
theorem Gk.below {w w' : World} {o o' : Option Nat} {B : Nat} (h : Gk w w' o o') (hB : B ≤ w.heap.size) (ho : ∀ k, o = some k → B ≤ k) : Below B w w' :=
  ⟨h.os, h.tape, h.output, h.size, fun k hk => h.block k (by omega) (fun e => by have := ho k e.symm; omega)⟩
theorem le_snoc (k x i : Nat) (h : i < k) : (le k x).take (i + 1) = (le k x).take i ++ [UInt8.ofNat (x / 256 ^ i)] := by
  have h1 : i < (le k x).length := by rw [le_len]; exact h
  rw [List.take_succ_eq_append_getElem h1]
  have := le_get k x i h
  rw [List.getElem?_eq_getElem h1] at this
  rw [Option.some.inj this]
/-- what the document's tellers answer -/
def RefR (B : Nat) (w : World) (v : Value) (out : Bs) (e : Ending) (w' : World) : Prop := ∃ v', e = .returned v' ∧ Row B v' out w' ∧ Gk w w' v.ownBlock v'.ownBlock
set_option maxHeartbeats 1000000 in
set_option maxRecDepth 100000 in
theorem rnumber_any (B : Nat) (v : Value) (out : Bs) (z : Int) (w : World) (hR : Row B v out w) (hB : B ≤ w.heap.size) (hl : out.length ≤ 35184372088832) :
    Calls Tryz.prog 38 #[v, .int .i64 z] w (RefR B w v (out ++ numB z)) := by
  obtain ⟨i0, hi, hz0, hz1, hz2⟩ := info_parts Tryz.infoByte
  have HR := hide hR
  have hu := num_u64 z
  have HN : Hid (numB z = le 8 (u64 z)) := rfl
  clear hR
  generalize u64 z = x at *
  go_enter Tryz.func38, Tryz.ntmps38
  go_wp2_with fail
  go_loopw [0, 5] (fun v0 v5 wr => ∃ i : Nat, i ≤ 8 ∧ v5 = .int .i64 i ∧ Hid (Row B v0 (out ++ (le 8 x).take i) wr) ∧ Hid (Gk w wr v.ownBlock v0.ownBlock)) (fun _ v5 _ => 8 - (intOf v5).toNat)
  case atStart => exact ⟨0, by omega, rfl, by rw [List.take_zero]; show Row B v (out ++ []) w; rw [List.append_nil]; exact unhide HR, Gk.refl _ _⟩
  case round =>
    clear HR
    obtain ⟨i, hi8, rfl, hR, hG⟩ := hrel
    by_cases hlt : i < 8
    · have hlt' : (i : Int) < 8 := by omega
      have hE := low_val x i
      have hS := hide (le_snoc 8 x i hlt)
      obtain ⟨c, hc⟩ : ∃ c, c = UInt8.ofNat (x / 256 ^ i) := ⟨_, rfl⟩
      rw [← hc] at hE hS
      clear hc
      obtain ⟨va, vc, hv⟩ := row_slice (unhide hR)
      have hlen : (out ++ (le 8 x).take i).length = out.length + i := by rw [List.length_append, List.length_take, le_len]; omega
      have hsz := (unhide hG).size
      rw [hlen] at hv
      subst hv
      go_wp2_with (first | (at_builtin; refine wpList_append_own_at _ rfl _ _ 23 rfl B 5 i0 _ 1 1 Tryz.underlying23 hi hz0 hz1 hz2 rfl (by decide) _ (out ++ (le 8 x).take i).length (Lib.byteCells (out ++ (le 8 x).take i)) rfl ((unhide hR).alloc _) ⟨wr.heap.size, 0, none⟩ 1 1 [.int .u8 (c.toNat : Int)] rfl rfl (byte_new _ _ _) (byte_one _) (by unfold maxLen; omega) (by omega) (by simp; omega) ?_))
      intro v' w2 hO hgr _ hat
      have hR2 : Row B v' (out ++ (le 8 x).take (i + 1)) w2 := by
        rw [unhide hS, ← List.append_assoc]
        rw [← hlen] at hO
        exact row_snoc hO rfl
      have hG2 := (unhide hG).trans ((Gk.of_below (below_new wr (.cells #[.int .u8 (c.toNat : Int)] 5))).trans (Gk.of_grown hgr (by rw [World.size_alloc]; exact hat)))
      have HR2 := hide hR2
      have HG2 := hide hG2
      clear hO hgr hat hR2 hG2 hR hG hE hS hu
      go_wp2_with fail
      go_roundw
      case rel => exact ⟨i + 1, by omega, by go_num, HR2, HG2⟩
      case measure => simp [intOf]; omega
    · obtain rfl : i = 8 := by omega
      rw [List.take_of_length_le (by rw [le_len]; exact Nat.le_refl _)] at hR
      go_wp2_with fail
      go_ret
      exact ⟨_, rfl, by rw [unhide HN]; exact unhide hR, unhide hG⟩
set_option maxHeartbeats 1000000 in
set_option maxRecDepth 100000 in
theorem rcount_any (B : Nat) (v : Value) (out : Bs) (x : Nat) (w : World) (hR : Row B v out w) (hB : B ≤ w.heap.size) (hl : out.length ≤ 35184372088832) :
    Calls Tryz.prog 87 #[v,   .int .i64 (x : Int)] w (RefR B w v (out ++ lenB x)) := by
  obtain ⟨i0, hi, hz0, hz1, hz2⟩ := info_parts Tryz.infoByte
  have HR := hide hR
  have HN : Hid (lenB x = le 4 x) := rfl
  clear hR
  go_enter Tryz.func87, Tryz.ntmps87
  go_wp2_with fail
  go_loopw [0, 5] (fun v0 v5 wr => ∃ i : Nat, i ≤ 4 ∧ v5 = .int .i64 i ∧ Hid (Row B v0 (out ++ (le 4 x).take i) wr) ∧ Hid (Gk w wr v.ownBlock v0.ownBlock)) (fun _ v5 _ => 4 - (intOf v5).toNat)
  case atStart => exact ⟨0, by omega, rfl, by rw [List.take_zero]; show Row B v (out ++ []) w; rw [List.append_nil]; exact unhide HR, Gk.refl _ _⟩
  case round =>
    clear HR
    obtain ⟨i, hi8, rfl, hR, hG⟩ := hrel
    by_cases hlt : i < 4
    · have hlt' : (i : Int) < 4 := by omega
      have hE := low_val x i
      have hS := hide (le_snoc 4 x i hlt)
      obtain ⟨c, hc⟩ : ∃ c, c = UInt8.ofNat (x / 256 ^ i) := ⟨_, rfl⟩
      rw [← hc] at hE hS
      clear hc
      obtain ⟨va, vc, hv⟩ := row_slice (unhide hR)
      have hlen : (out ++ (le 4 x).take i).length = out.length + i := by rw [List.length_append, List.length_take, le_len]; omega
      have hsz := (unhide hG).size
      rw [hlen] at hv
      subst hv
      go_wp2_with (first | (at_builtin; refine wpList_append_own_at _ rfl _ _ 23 rfl B 5 i0 _ 1 1 Tryz.underlying23 hi hz0 hz1 hz2 rfl (by decide) _ (out ++ (le 4 x).take i).length (Lib.byteCells (out ++ (le 4 x).take i)) rfl ((unhide hR).alloc _) ⟨wr.heap.size, 0, none⟩ 1 1 [.int .u8 (c.toNat : Int)] rfl rfl (byte_new _ _ _) (byte_one _) (by unfold maxLen; omega) (by omega) (by simp; omega) ?_))
      intro v' w2 hO hgr _ hat
      have hR2 : Row B v' (out ++ (le 4 x).take (i + 1)) w2 := by
        rw [unhide hS, ← List.append_assoc]
        rw [← hlen] at hO
        exact row_snoc hO rfl
      have hG2 := (unhide hG).trans ((Gk.of_below (below_new wr (.cells #[.int .u8 (c.toNat : Int)] 5))).trans (Gk.of_grown hgr (by rw [World.size_alloc]; exact hat)))
      have HR2 := hide hR2
      have HG2 := hide hG2
      clear hO hgr hat hR2 hG2 hR hG hE hS
      go_wp2_with fail
      go_roundw
      case rel => exact ⟨i + 1, by omega, by go_num, HR2, HG2⟩
      case measure => simp [intOf]; omega
    · obtain rfl : i = 4 := by omega
      rw [List.take_of_length_le (by rw [le_len]; exact Nat.le_refl _)] at hR
      go_wp2_with fail
      go_ret
      exact ⟨_, rfl, by rw [unhide HN]; exact unhide hR, unhide hG⟩
/-- likewise, with what lies below B as it was -/
def RefB (B : Nat) (w : World) (out : Bs) (e : Ending) (w' : World) : Prop := ∃ v', e = .returned v' ∧ Row B v' out w' ∧ Below B w w'
theorem RefR.low {B : Nat} {w : World} {v : Value} {out out' : Bs} {e : Ending} {w' : World} (h : RefR B w v out e w') (hv : Row B v out' w) (hB : B ≤ w.heap.size) : RefB B w out e w' := by
  obtain ⟨v', h1, h2, h3⟩ := h
  exact ⟨v', h1, h2, h3.below hB (row_lo hv)⟩
set_option maxHeartbeats 1000000 in
set_option maxRecDepth 100000 in
theorem rtext2_any (B : Nat) (v : Value) (out : Bs) (s : ByteArray) (w : World) (hR : Row B v out w) (hB : B ≤ w.heap.size) (hl : out.length ≤ 17592186044416) (hs : s.size ≤ 65536) :
    Calls Tryz.prog 37 #[v, .string s] w (RefB B w (out ++ txtB (bs s))) := by
  obtain ⟨i0, hi, hz0, hz1, hz2⟩ := info_parts Tryz.infoByte
  have H := hide (rcount_any B v out s.size w hR hB (by omega))
  have HR0 := hide hR
  clear hR
  go_enter Tryz.func37, Tryz.ntmps37
  go_wp2_with fail
  refine (unhide H).mono ?_
  rintro e w1 ⟨v1, rfl, hR1, hG1⟩
  have HR := hide hR1
  have HB1 := hide (hG1.below hB (row_lo (unhide HR0)))
  have hlen : (out ++ lenB s.size).length = out.length + 4 := by rw [List.length_append, lenB_len]
  obtain ⟨va, vc, hv⟩ := row_slice hR1
  rw [hlen] at hv
  subst hv
  have hsz := hG1.size
  clear H hR1 hG1 HR0
  go_wp2_with (first | (at_builtin; refine Lib.wpList_append_own_string _ rfl _ _ 23 9 rfl B 5 i0 Tryz.underlying23 Tryz.underlying9 hi hz0 hz1 hz2 _ (out ++ lenB s.size).length (Lib.byteCells (out ++ lenB s.size)) rfl (unhide HR) s rfl (by unfold maxLen; omega) (by omega) (by omega) ?_))
  intro v2 w2 hO hgr _
  have hR2 : Row B v2 (out ++ txtB (bs s)) w2 := by
    have := row_app (m := bs s) rfl (show w2.ownsRow B 5 1 v2 ((out ++ lenB s.size).length + s.size) (Lib.byteCells (out ++ lenB s.size) ++ Lib.byteCells (bs s)) from by rw [hlen]; exact hO)
    rw [List.append_assoc] at this
    exact this
  have hb2 : Below B w1 w2 := ⟨hgr.os, hgr.tape, hgr.output, hgr.size, fun k hk => hgr.block k (by omega) (fun e => by have := row_lo (unhide HR) k e.symm; omega)⟩
  have HR2 := hide hR2
  have HB2 := hide ((unhide HB1).trans hb2)
  clear hO hgr hR2 hb2
  go_wp2_with fail
  go_ret
  exact ⟨v2, rfl, unhide HR2, unhide HB2⟩
end Go.Proofs.YtbofidpoajdcmaaGreatDoor.Cd
