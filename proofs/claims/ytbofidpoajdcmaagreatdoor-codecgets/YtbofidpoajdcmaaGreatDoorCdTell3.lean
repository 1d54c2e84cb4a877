/- A teller's methods: numbers, text, call; gather; Put. -/
import Derived.Test.YtbofidpoajdcmaaGreatDoorCdTell2
import Derived.Outline
namespace Go.Proofs.YtbofidpoajdcmaaGreatDoor.Cd
open Go.RowKit Cu Tr

/-- a block of numbers -/
def Nums (w : World) (b : Nat) (l : List Int) : Prop := w.heap[b]? = some (.cells (l.map (Value.int .i64)).toArray 3 (0, 0))
theorem Nums.cell {w : World} {b : Nat} {l : List Int} (h : Nums w b l) (i : Nat) (hi : i < l.length) : w.cell? ⟨b, i, none⟩ = some (.int .i64 l[i]) := by
  rw [cell_of_row _ _ _ _ _ _ h]
  simp [List.getElem?_eq_getElem hi]
theorem num_u64 (z : Int) : IntKind.u64.wrap z = ((u64 z : Nat) : Int) := by
  unfold u64
  simp only [IntKind.wrap, IntKind.signed, IntKind.bits]
  simp only [Bool.false_eq_true, if_false, Bool.false_and]
  omega
theorem numsB_snoc (l : List Int) (i : Nat) (h : i < l.length) : numsB (l.take (i + 1)) = numsB (l.take i) ++ numB l[i] := by
  rw [List.take_succ_eq_append_getElem h]; simp only [numsB, List.flatMap_append, List.flatMap_cons, List.flatMap_nil, List.append_nil]
set_option maxHeartbeats 400000 in
set_option maxRecDepth 100000 in
theorem numbers_any (b n : Nat) (l : List Int) (g : Nat) (o : Option Nat) (out : Bs) (w : World) (hT : Tl w g o out) (hN : Nums w b l) (hn : l.length = n) (hn2 : n ≤ 64) (hO : Off (some ⟨b, 0, none⟩) g o) (hl : out.length ≤ 35184372088832) :
    Calls Tryz.prog 96 #[tv g, .slice (some ⟨b, 0, none⟩) n n] w fun e w' => e = .returned (.tuple #[]) ∧ ∃ o', Tl w' g o' (out ++ numsB l) ∧ Tk w w' g o o' := by
  have hbl : b < w.heap.size := (Array.getElem?_eq_some_iff.1 hN).1
  have HN := hide hN
  have HT := hide hT
  have HO := hide hO
  clear hT hN hO
  go_enter Tryz.func96, Tryz.ntmps96
  go_wp2_with fail
  go_loopw [8] (fun v8 wr => ∃ i : Nat, i ≤ n ∧ v8 = .int .i64 i ∧ ∃ o', Hid (Tl wr g o' (out ++ numsB (l.take i))) ∧ Hid (Tk w wr g o o')) (fun v8 _ => n - (intOf v8).toNat)
  case atStart => exact ⟨0, Nat.zero_le _, rfl, o, by rw [List.take_zero]; show Tl _ _ _ (out ++ []); rw [List.append_nil]; exact unhide HT, Tk.refl _ _ _⟩
  case round =>
    clear HT
    obtain ⟨i, hi, rfl, o1, hT, hK⟩ := hrel
    by_cases hlt : i < n
    · have hlt' : (i : Int) < (n : Int) := by omega
      have hll : i < l.length := by omega
      have hNr : Nums wr b l := ((unhide hK).block b hbl (unhide HO _ rfl).1 (unhide HO _ rfl).2).trans (unhide HN)
      have hcell := hNr.cell i hll
      have hS := hide (numsB_snoc l i hll)
      clear hNr
      generalize l[i] = z at *
      have hu := num_u64 z
      have h1 := hide (lowest_any (u64 z) 8 wr (by omega))
      go_wp2_with fail
      refine (unhide h1).mono ?_
      rintro e w1 ⟨rfl, hB, hb⟩
      have h2 := hide (tell_any (some ⟨wr.heap.size, 0, none⟩) 8 8 (numB z) g o1 _ w1 ((unhide hT).below hb) (by have := hB.by; rw [le_len] at this; exact this) (by rw [List.length_append, numsB_len, List.length_take]; omega))
      have HB := hide hb
      clear h1 hB hb
      go_wp2_with fail
      refine (unhide h2).mono ?_
      rintro e w2 ⟨rfl, o2, h3, h4⟩
      rw [List.append_assoc, ← unhide hS] at h3
      have H3 := hide h3
      have H4 := hide ((unhide hK).trans ((Tk.of_below (unhide HB)).trans h4))
      clear h2 h3 h4 hT hK hu hS hcell
      go_wp2_with fail
      go_roundw
      case rel => exact ⟨i + 1, by omega, by go_num, o2, H3, H4⟩
      case measure => simp [intOf]; omega
    · rw [List.take_of_length_le (by omega)] at hT
      go_wp2_with fail
      go_end0
      exact ⟨rfl, o1, unhide hT, unhide hK⟩
theorem cv_to (x : ByteArray) (W : World) : ∃ (c : Nat) (o : Obj), (convert 9 23 (.string x)).run Tryz.prog W = .ok (.slice (some ⟨W.heap.size, 0, none⟩) x.size c) (W.alloc o).drew ∧ By (W.alloc o).drew (some ⟨W.heap.size, 0, none⟩) x.size c (bs x) := by
  have hr := run_bytes_of_string (P := Tryz.prog) W 9 23 5 x Tryz.underlying9 Tryz.underlying23 Tryz.underlying5
  refine ⟨_, _, hr, rfl, grownCap_ge _ _ _ _, (by intro h; cases h), .inr ⟨_, 0, rfl, by simp, ?_⟩⟩
  intro i hi
  rw [Nat.zero_add, World.cell?_drew, Lib.cell_of_heap (heap_alloc_new W _)]
  unfold bytesRow
  rw [Array.getElem?_append_left (by simpa using hi)]
  have hi' : i < x.data.size := hi
  rw [Array.getElem?_map, Array.getElem?_eq_getElem hi', show (bs x).getD i 0 = x.data[i] by simp [List.getD, Array.getElem?_eq_getElem hi']]
  rfl
set_option maxHeartbeats 400000 in
set_option maxRecDepth 100000 in
theorem text_any (x : ByteArray) (g : Nat) (o : Option Nat) (out : Bs) (w : World) (hT : Tl w g o out) (hn : x.size ≤ 65536) (hl : out.length ≤ 35184372088832) :
    Calls Tryz.prog 95 #[tv g, .string x] w fun e w' => e = .returned (.tuple #[]) ∧ ∃ o', Tl w' g o' (out ++ txtB (bs x)) ∧ Tk w w' g o o' := by
  obtain ⟨c, ob, hcv, hBy⟩ := cv_to x w
  have hb : Below w.heap.size w (w.alloc ob).drew := below_drewN ((Below.refl _ _).alloc (Nat.le_refl _) _) 1
  have h1 := hide (data_any (some ⟨w.heap.size, 0, none⟩) x.size c (bs x) g o out _ (hT.below hb) hBy (fun _ => off_new hT 0) hn hl)
  have HB := hide hb
  clear hT hBy hb
  go_enter Tryz.func95, Tryz.ntmps95
  go_wp2_with fail
  refine (unhide h1).mono ?_
  rintro e w2 ⟨rfl, o', h3, h4⟩
  have H3 := hide h3
  have H4 := hide ((Tk.of_below (unhide HB)).trans h4)
  clear h1 h3 h4
  go_wp2_with fail
  go_end0
  exact ⟨rfl, o', unhide H3, unhide H4⟩
/-- a call by value -/
abbrev ca (c : Ca) (d : Value) : Array Value := #[.int .u8 (c.kind.toNat : Int), .string c.path, .string c.other, .int .i64 c.mode, .int .i64 c.user, .int .i64 c.group, .int .i64 c.time, d, .int .i64 c.eu, .int .i64 c.eg, .int .i64 c.em, .int .i64 c.ed]
abbrev cav (c : Ca) (a : Option Addr) (cap : Nat) : Value := .agg (ca c (.slice a c.data.length cap))
/-- a block that holds a call -/
def Cb (w : World) (b : Nat) (c : Ca) (d : Value) : Prop := w.heap[b]? = some (.cells (ca c d) 27 (0, 0))
theorem Cb.told {w w' : World} {b g : Nat} {o o' : Option Nat} {c : Ca} {d : Value} (h : Cb w b c d) (hO : Off (some ⟨b, 0, none⟩) g o) (hk : Tk w w' g o o') : Cb w' b c d :=
  (hk.block b (Array.getElem?_eq_some_iff.1 h).1 (hO _ rfl).1 (hO _ rfl).2).trans h
theorem Cb.at {w : World} {b : Nat} {c : Ca} {d : Value} (h : Cb w b c d) (i : Nat) (v : Value) (hv : (ca c d)[i]? = some v) : w.cell? ⟨b, i, none⟩ = some v := (cell_of_row _ _ _ _ _ _ h).trans hv
theorem nums4 (w : World) (a b c d : Int) : Nums (w.alloc (.cells #[.int .i64 a, .int .i64 b, .int .i64 c, .int .i64 d] 3)) w.heap.size [a, b, c, d] := heap_alloc_new w _
theorem below_new (w : World) (o : Obj) : Below w.heap.size w (w.alloc o) := (Below.refl _ _).alloc (Nat.le_refl _) _
theorem blk_one (w : World) (c : UInt8) : By (w.alloc (.cells #[.int .u8 (c.toNat : Int)] 5)) (some ⟨w.heap.size, 0, none⟩) 1 1 [c] := (show Blk (w.alloc (.cells #[.int .u8 (c.toNat : Int)] 5)) w.heap.size [c] from heap_alloc_new w _).by
/-- so far as a call is told -/
structure St (w : World) (g b : Nat) (o : Option Nat) (c : Ca) (a : Option Addr) (cap : Nat) (wk : World) (ok : Option Nat) (cur : Bs) : Prop where
  tl : Tl wk g ok cur
  tk : Tk w wk g o ok
  cb : Cb wk b c (.slice a c.data.length cap)
  by' : By wk a c.data.length cap c.data
  offa : 0 < c.data.length → Off a g ok
  offb : Off (some ⟨b, 0, none⟩) g ok
theorem St.more {w wk w' : World} {g b : Nat} {o ok o' : Option Nat} {c : Ca} {a : Option Addr} {cap : Nat} {cur cur' : Bs} (h : St w g b o c a cap wk ok cur) (ht : Tl w' g o' cur') (hk : Tk wk w' g ok o') : St w g b o c a cap w' o' cur' :=
  ⟨ht, h.tk.trans hk, h.cb.told h.offb hk, By.told h.by' h.offa hk, fun h0 => (h.offa h0).tk hk (By.in h.by' h0), h.offb.tk hk (fun ad e => by injection e with e; subst e; exact (Array.getElem?_eq_some_iff.1 h.cb).1)⟩
theorem St.below {w wk w' : World} {g b : Nat} {o ok : Option Nat} {c : Ca} {a : Option Addr} {cap : Nat} {cur : Bs} (h : St w g b o c a cap wk ok cur) (hb : Below wk.heap.size wk w') : St w g b o c a cap w' ok cur := h.more (h.tl.below hb) (Tk.of_below hb)
set_option maxHeartbeats 2000000 in
set_option maxRecDepth 100000 in
theorem call_any (c : Ca) (a : Option Addr) (cap : Nat) (g : Nat) (o : Option Nat) (out : Bs) (w : World) (hT : Tl w g o out) (hB : By w a c.data.length cap c.data) (hO : 0 < c.data.length → Off a g o) (hm : mayPut c = true) (hl : out.length ≤ 17592186044416) :
    Calls Tryz.prog 36 #[tv g, cav c a cap] w fun e w' => e = .returned (.tuple #[]) ∧ ∃ o', Tl w' g o' (out ++ putP c) ∧ Tk w w' g o o' := by
  simp only [mayPut, Bool.and_eq_true, decide_eq_true_eq] at hm
  obtain ⟨⟨hm1, hm2⟩, hm3⟩ := hm
  obtain ⟨O, hOb⟩ : ∃ O : Obj, O = .cells (ca c (.slice a c.data.length cap)) 27 (0, 0) := ⟨_, rfl⟩
  have S0 : Hid (St w g w.heap.size o c a cap (w.alloc O) o out) :=
    ⟨hT.below (below_new _ _), Tk.of_below (below_new _ _), by rw [hOb]; exact heap_alloc_new w _, hB.below (below_new _ _), hO, off_new hT 0⟩
  have hlt : Hid (w.heap.size < (w.alloc O).heap.size) := by show _ < _; simp
  clear hT hB hO
  go_enter Tryz.func36, Tryz.ntmps36
  go_wp2_with fail
  rw [← hOb]
  have T1 := hide (tell_any (some ⟨w.heap.size + 1, 0, none⟩) 1 1 [c.kind] g o out _ ((unhide S0).tl.below (below_new (w.alloc O) (.cells #[.int .u8 (c.kind.toNat : Int)] 5))) (by have := blk_one (w.alloc O) c.kind; rw [World.size_alloc] at this; exact this) (by omega))
  refine (unhide T1).mono ?_
  rintro e w1 ⟨rfl, o1, h1, h2⟩
  have S1 := hide (((unhide S0).below (below_new _ _)).more h1 h2)
  clear T1 h1 h2 S0 hlt
  have k1 := (unhide S1).cb.at 1 (.string c.path) rfl
  go_wp2_with fail
  refine (text_any c.path g o1 _ w1 (unhide S1).tl hm1 (by simp; omega)).mono ?_
  rintro e w2 ⟨rfl, o2, h1, h2⟩
  have S2 := hide ((unhide S1).more h1 h2)
  clear h1 h2 k1
  have k2 := (unhide S2).cb.at 2 (.string c.other) rfl
  go_wp2_with fail
  refine (text_any c.other g o2 _ w2 (unhide S2).tl hm2 (by simp [txtB_len]; omega)).mono ?_
  rintro e w3 ⟨rfl, o3, h1, h2⟩
  have S3 := hide ((unhide S2).more h1 h2)
  clear h1 h2 k2
  have k3 := (unhide S3).cb.at 3 (.int .i64 c.mode) rfl
  have k4 := (unhide S3).cb.at 4 (.int .i64 c.user) rfl
  have k5 := (unhide S3).cb.at 5 (.int .i64 c.group) rfl
  have k6 := (unhide S3).cb.at 6 (.int .i64 c.time) rfl
  go_wp2_with fail
  refine (numbers_any w3.heap.size 4 [c.mode, c.user, c.group, c.time] g o3 _ _ ((unhide S3).tl.below (below_new _ _)) (nums4 w3 _ _ _ _) rfl (by omega) (off_new (unhide S3).tl 0) (by simp [txtB_len]; omega)).mono ?_
  rintro e w4 ⟨rfl, o4, h1, h2⟩
  have S4 := hide (((unhide S3).below (below_new _ _)).more h1 h2)
  clear h1 h2 k3 k4 k5 k6
  have k7 := (unhide S4).cb.at 7 (.slice a c.data.length cap) rfl
  go_wp2_with fail
  refine (data_any a c.data.length cap c.data g o4 _ w4 (unhide S4).tl (unhide S4).by' (unhide S4).offa hm3 (by simp [txtB_len, numsB_len]; omega)).mono ?_
  rintro e w5 ⟨rfl, o5, h1, h2⟩
  have S5 := hide ((unhide S4).more h1 h2)
  clear h1 h2 k7
  have k8 := (unhide S5).cb.at 8 (.int .i64 c.eu) rfl
  have k9 := (unhide S5).cb.at 9 (.int .i64 c.eg) rfl
  have k10 := (unhide S5).cb.at 10 (.int .i64 c.em) rfl
  have k11 := (unhide S5).cb.at 11 (.int .i64 c.ed) rfl
  go_wp2_with fail
  refine (numbers_any w5.heap.size 4 [c.eu, c.eg, c.em, c.ed] g o5 _ _ ((unhide S5).tl.below (below_new _ _)) (nums4 w5 _ _ _ _) rfl (by omega) (off_new (unhide S5).tl 0) (by simp [txtB_len, numsB_len]; omega)).mono ?_
  rintro e w6 ⟨rfl, o6, h1, h2⟩
  have S6 := hide (((unhide S5).below (below_new _ _)).more h1 h2)
  clear h1 h2 k8 k9 k10 k11
  go_wp2_with fail
  go_end0
  refine ⟨rfl, o6, ?_, (unhide S6).tk⟩
  have := (unhide S6).tl
  unfold putP
  simpa only [List.append_assoc] using this
set_option maxHeartbeats 400000 in
set_option maxRecDepth 100000 in
/-- what Put's closure tells -/
theorem puts_any (c : Ca) (a : Option Addr) (cap b : Nat) (g : Nat) (o : Option Nat) (out : Bs) (w : World) (hT : Tl w g o out) (hC : Cb w b c (.slice a c.data.length cap)) (hB : By w a c.data.length cap c.data) (hO : 0 < c.data.length → Off a g o) (hm : mayPut c = true) (hl : out.length ≤ 17592186044416) :
    Calls Tryz.prog 35 #[tv g, .pointer (some ⟨b, 0, none⟩)] w fun e w' => e = .returned (.tuple #[]) ∧ ∃ o', Tl w' g o' (out ++ putP c) ∧ Tk w w' g o o' := by
  have h1 := hide (call_any c a cap g o out w hT hB hO hm hl)
  have k0 := hC.at 0 (.int .u8 (c.kind.toNat : Int)) rfl
  have k1 := hC.at 1 (.string c.path) rfl
  have k2 := hC.at 2 (.string c.other) rfl
  have k3 := hC.at 3 (.int .i64 c.mode) rfl
  have k4 := hC.at 4 (.int .i64 c.user) rfl
  have k5 := hC.at 5 (.int .i64 c.group) rfl
  have k6 := hC.at 6 (.int .i64 c.time) rfl
  have k7 := hC.at 7 (.slice a c.data.length cap) rfl
  have k8 := hC.at 8 (.int .i64 c.eu) rfl
  have k9 := hC.at 9 (.int .i64 c.eg) rfl
  have k10 := hC.at 10 (.int .i64 c.em) rfl
  have k11 := hC.at 11 (.int .i64 c.ed) rfl
  clear hT hB hO hC
  go_enter Tryz.func35, Tryz.ntmps35
  go_wp2_with fail
  refine (unhide h1).mono ?_
  rintro e w2 ⟨rfl, o', h3, h4⟩
  have H3 := hide h3
  have H4 := hide h4
  clear h1 h3 h4
  go_wp2_with fail
  go_end0
  exact ⟨rfl, o', unhide H3, unhide H4⟩
end Go.Proofs.YtbofidpoajdcmaaGreatDoor.Cd
