/- TreePaths walked. -/
import Derived.Test.YtcidokmpfcigaaaTrPathsP
import Derived.Test.YtcidokmpfcigaaaTrLives
import Derived.Test.YtcidokmpfcigaaaTrGreat
namespace Go.Proofs.Ytcidokmpfcigaaa.Tr
open Go.RowKit Go.Proofs.Ytcidokmpfcigaaa.Cu

theorem Nt.step {w W W' : World} {o : Obj} (h : Nt w W o) (hb : Below W.heap.size W W') : Nt w W' o :=
  ⟨h.below.trans (hb.mono h.below.size), (hb.block _ h.sz).trans h.box, Nat.le_trans h.sz hb.size⟩
abbrev tO (a : Option Addr) (n cap : Nat) (now : Int) : Obj := .cells #[.slice a n cap, .int .i64 now] 24
theorem Nt.c {w W : World} {a : Option Addr} {n cap : Nat} {now : Int} (h : Nt w W (tO a n cap now)) : W.cell? ⟨w.heap.size, 0, none⟩ = some (.slice a n cap) ∧ W.cell? ⟨w.heap.size, 1, none⟩ = some (.int .i64 now) :=
  ⟨by rw [cell_of_row _ _ _ _ _ _ h.box]; rfl, by rw [cell_of_row _ _ _ _ _ _ h.box]; rfl⟩
/-- the rest of a path: the name at hand, and what is behind it -/
theorem jn_at {l : List ByteArray} {x : ByteArray} {r : List ByteArray} (hl : l = x :: r) (k : Nat) : (k < x.size → (jn l)[k]? = (bs x)[k]?) ∧ (k = x.size → r = [] → (jn l).length = k) ∧ (k = x.size → r ≠ [] → (jn l)[k]? = some 47 ∧ (jn l).drop (k + 1) = jn r) ∧ (jn l).take x.size = bs x ∧ x.size ≤ (jn l).length := by
  subst hl
  have hx : (bs x).length = x.size := rfl
  cases r with
  | nil => exact ⟨fun _ => rfl, fun h _ => by rw [h]; rfl, fun _ h => absurd rfl h, List.take_of_length_le (by show (bs x).length ≤ _; omega), Nat.le_refl _⟩
  | cons y r =>
    show (k < x.size → (bs x ++ 47 :: jn (y :: r))[k]? = _) ∧ _ ∧ (_ → _ → (bs x ++ 47 :: jn (y :: r))[k]? = _ ∧ (bs x ++ 47 :: jn (y :: r)).drop (k + 1) = _) ∧ (bs x ++ 47 :: jn (y :: r)).take x.size = _ ∧ x.size ≤ (bs x ++ 47 :: jn (y :: r)).length
    refine ⟨fun h => List.getElem?_append_left (by omega), fun _ h => by simp at h, fun h _ => ⟨?_, ?_⟩, ?_, ?_⟩
    · rw [List.getElem?_append_right (by omega), hx, h]; simp
    · rw [List.drop_append, hx, h, List.drop_of_length_le (by omega)]; simp
    · rw [← hx, List.take_left]
    · rw [List.length_append, hx]; omega
theorem up_dir {now : Int} {ns : List Nd} (hc : checkP now ns = true) {j c : Nat} (h : Up ns j c) : isDirP now ns (c : Int) = true := by
  obtain ⟨h1, _, _, h4, _⟩ := checkP_parts hc
  have hk : (nd ns c).kind = 2 ∧ 0 < c ∧ c < ns.length := by
    cases h with
    | root => exact ⟨h4, by omega, by omega⟩
    | step a b c d e => exact ⟨c, by omega, b⟩
  unfold isDirP nodeP
  rw [hc, Int.toNat_natCast, hk.1]
  simp
  omega
theorem up_pos {ns : List Nd} {j c : Nat} (h : Up ns j c) : 0 < c := by
  cases h with
  | root => omega
  | step a b c d e => omega
/-- what is known of a directory's path -/
structure Ph (now : Int) (ns : List Nd) (k : Nat) (L : List ByteArray) (P : ByteArray) : Prop where
  bsP : bs P = 47 :: jn L
  up : ∀ j, j ≤ L.length → Up ns j (walkN ns 1 (L.take j))
  fin : walkN ns 1 L = k
  ok : ∀ x ∈ L, nameP x = true
  path : pathV now ns (k : Int) = .tuple #[.string P, .int .i64 0]
  depth : depthV now ns (k : Int) = (L.length : Int)
  small : P.size ≤ 3000000
  len : L.length ≤ 16384
theorem ph_of {now : Int} {ns : List Nd} {k : Nat} (h : isDirP now ns (k : Int) = true) : ∃ L P, Ph now ns k L P := by
  have hc := (dir_list h).1
  have hu := (dir_up h).1
  obtain ⟨hl, hj⟩ := names_lead hc hu
  have hlen : (namesTo ns k).length = depN ns 32 k := by unfold namesTo; rw [List.length_reverse, hl]
  have hbj : bs (⟨#[47]⟩ ++ joined ns k) = 47 :: jn (namesTo ns k) := by
    show (⟨#[47]⟩ ++ joined ns k : ByteArray).data.toList = _
    rw [ByteArray.data_append, Array.toList_append]
    show [47] ++ (joined ns k).data.toList = _
    unfold joined
    rw [← jn_join]; rfl
  refine ⟨namesTo ns k, ⟨#[47]⟩ ++ joined ns k, hbj, fun j hjl => ?_, ?_, (namesTo_len h).1, ?_, ?_, ?_, (namesTo_len h).2⟩
  · exact (hj j (by omega)).1
  · have := (hj (depN ns 32 k) (Nat.le_refl _)).2 rfl
    rw [List.take_of_length_le (by rw [List.length_reverse, hl]; exact Nat.le_refl _)] at this
    exact this
  · unfold pathV; rw [h, Int.toNat_natCast]; rfl
  · unfold depthV; rw [h, Int.toNat_natCast]; rfl
  · rw [← bs_len, hbj, List.length_cons, ← jn_join]
    have := joined_size h
    omega
/-- the loop over a path's bytes -/
inductive Pi (L : List ByteArray) (P : ByteArray) (j fr i : Nat) : Prop
  | on (x : ByteArray) (r : List ByteArray) : L.drop j = x :: r → (bs P).drop fr = jn (x :: r) → fr ≤ i → i ≤ fr + x.size → Pi L P j fr i
  | done : j = L.length → (i = P.size + 1 ∨ P.size ≤ 1) → Pi L P j fr i
theorem pi_first {now : Int} {ns : List Nd} {k : Nat} {L : List ByteArray} {P : ByteArray} (h : Ph now ns k L P) : Pi L P 0 1 1 := by
  have hb := h.bsP
  cases L with
  | nil => exact .done rfl (.inr (by rw [← bs_len, hb]; simp [jn]))
  | cons x r => exact .on x r rfl (by rw [hb]; rfl) (Nat.le_refl _) (by omega)
set_option maxRecDepth 100000 in
set_option maxHeartbeats 2000000 in
theorem paths_walk (a : Option Addr) (n cap : Nat) (ns : List Nd) (now : Int) (w : World) (h : Ng w a n cap ns) (hn : n ≤ 281474976710656) (hr : ∀ i, i < n → Rb (nd ns i)) :
    Calls Try.prog 5 #[.agg #[.slice a n cap, .int .i64 now]] w fun e w' => e = .returned (.bool true) ∧ Below w.heap.size w w' := by
  have HG : Hid (∀ W, Below w.heap.size w W → Calls Try.prog 7 #[.agg #[.slice a n cap, .int .i64 now]] W fun e w' => (∃ q : Bool, e = .returned (.bool q) ∧ (q = false → nodesTo ns ns.length ≤ 200000)) ∧ Below W.heap.size W w') := fun W hW => great_any a n cap ns now W (h.below hW) hn hr
  have HL := hide lives_any
  have HN := hide h
  have hN0 : Hid (Nt w (w.alloc (tO a n cap now)) (tO a n cap now)) := ⟨(Below.refl _ _).alloc (Nat.le_refl _) _, heap_alloc_new w _, by simp⟩
  clear h hr
  go_enter Try.func5, Try.ntmps5
  go_wp2_with fail
  refine (unhide HG _ (unhide hN0).below).mono ?_
  rintro e w1 ⟨⟨q, rfl, hq⟩, b1⟩
  have hN1 := hide ((unhide hN0).step b1)
  clear b1 hN0 HG
  cases q with
  | true =>
    clear hq
    go_wp2_with fail
    refine (unhide HL _).mono ?_
    rintro e w2 ⟨rfl, b2⟩
    have hB2 := hide ((unhide hN1).step b2).below
    clear b2 HL hN1
    go_wp2
    go_ret
    exact ⟨rfl, unhide hB2⟩
  | false =>
    have hsm := sm_of_size (hq rfl)
    obtain ⟨c0, c1⟩ := (unhide hN1).c
    have HCk := hide (checkAny now ((unhide HN).below (unhide hN1).below) hsm)
    have HSM := hide hsm
    clear hq hsm
    go_wp2_with fail
    refine (unhide HCk).mono ?_
    rintro e w2 ⟨rfl, b2⟩
    have hN2 := hide ((unhide hN1).step b2)
    clear b2 HCk c0 c1 hN1
    cases hck : checkP now ns with
    | false =>
      go_wp2_with fail
      refine (unhide HL _).mono ?_
      rintro e w3 ⟨rfl, b3⟩
      have hB3 := hide ((unhide hN2).step b3).below
      clear b3 HL hN2
      go_wp2
      go_ret
      exact ⟨rfl, unhide hB3⟩
    | true =>
      have HCK := hide hck
      clear hck
      have h2 : 2 ≤ n := by rw [← (unhide HN).len]; exact checkP_two (unhide HCK)
      have hn6 : n ≤ 1000000 := by rw [← (unhide HN).len]; exact (unhide HSM).hn
      rcases (unhide HN).cells with h0 | ⟨b, off, rfl, hb, hc⟩
      · omega
      have HX := hide hc
      clear hc
      go_wp2
      go_loopw [3] (fun x wr => ∃ k : Nat, 1 ≤ k ∧ k ≤ n ∧ x = .int .i64 k ∧ Hid (Nt w wr (tO (some ⟨b, off, none⟩) n cap now))) (fun x _ => n - (intOf x).toNat)
      case atStart => exact ⟨1, Nat.le_refl _, by omega, rfl, hN2⟩
      case round =>
        clear hN2
        obtain ⟨k, hk1, hkn, rfl, hNt⟩ := hrel
        obtain ⟨c0, c1⟩ := (unhide hNt).c
        by_cases hlt : k < n
        · have hlt' : (k : Int) < (n : Int) := by omega
          obtain ⟨_, _, _, _, q10, -, -⟩ := (unhide HX k hlt).below hb (unhide hNt).below
          have ck := q10.c0
          clear q10
          by_cases hk2 : (nd ns k).kind = 2
          case neg =>
            have hk3 : ((nd ns k).kind.toNat : Int) != 2 := by
              simp
              intro e
              exact hk2 (UInt8.toNat_inj.1 (by show (nd ns k).kind.toNat = 2; omega))
            generalize (nd ns k).kind.toNat = kn at *
            go_wp2
            go_roundw
            case rel => exact ⟨k + 1, by omega, by omega, by go_num, hNt⟩
            case measure => simp [intOf]; omega
          · have ck2 : wr.cell? ⟨b, off + k * 10, none⟩ = some (.int .u8 2) := by rw [ck, hk2]; rfl
            have hdir : isDirP now ns (k : Int) = true := by
              unfold isDirP nodeP
              rw [unhide HCK, Int.toNat_natCast, hk2, (unhide HN).len]
              simp
              omega
            obtain ⟨L, P, hPh⟩ := ph_of hdir
            have HPh := hide hPh
            have HP := hide (path_any (some ⟨b, off, none⟩) n cap ns now (k : Int) wr ((unhide HN).below (unhide hNt).below) (unhide HSM))
            rw [hPh.path] at HP
            have hsz1 : P.size = 1 + (jn L).length := by rw [← bs_len, hPh.bsP, List.length_cons]; omega
            have hszm := hPh.small
            have hLl := hPh.len
            have hP0 : ¬ P.toList = [] := by rw [ByteArray.toList_eq, show P.data.toList = bs P from rfl, hPh.bsP]; simp
            have hP1 : 0 < P.size := by omega
            have hP3 : P.toList.isEmpty = false := by rw [List.isEmpty_eq_false_iff]; exact hP0
            have hP4 : (P.toList == []) = false := by rw [beq_eq_false_iff_ne]; exact hP0
            have hP2 : (P[0].toNat : Int) = 47 := by
              have := hPh.bsP
              rw [bs_one P hP1] at this
              injection this with h1 _
              rw [h1]; rfl
            clear hPh hk2 ck hdir
            go_wp2_with fail
            refine (unhide HP).mono ?_
            rintro e w3 ⟨rfl, b3⟩
            have hN3 := hide ((unhide hNt).step b3)
            clear b3 HP hNt c0 c1 ck2
            have HSZ := hide hsz1
            clear hsz1
            go_wp2
            clear hP0 hP2 hP3 hP4
            go_loopw [6, 7, 8, 9] (fun xa xm xf xi wq => ∃ j fr i c : Nat, j ≤ L.length ∧ xa = .int .i64 c ∧ xm = .int .i64 j ∧ xf = .int .i64 fr ∧ xi = .int .i64 i ∧ i ≤ P.size + 1 ∧ Hid (c = walkN ns 1 (L.take j)) ∧ Hid (Pi L P j fr i) ∧ Hid (Nt w wq (tO (some ⟨b, off, none⟩) n cap now))) (fun _ _ _ xi _ => P.size + 1 - (intOf xi).toNat)
            case atStart => exact ⟨0, 1, 1, 1, Nat.zero_le _, rfl, rfl, rfl, rfl, by omega, rfl, pi_first (unhide HPh), hN3⟩
            case round =>
              clear hN3
              obtain ⟨j, fr, i, c, hjL, rfl, rfl, rfl, rfl, hiP, hc, hPi, hNq⟩ := hrel
              obtain ⟨c0, c1⟩ := (unhide hNq).c
              rcases unhide hPi with ⟨x, r, hdr, hjn, hfi, hix⟩ | ⟨hjl, hdn⟩
              · have hnm : nameP x = true := (unhide HPh).ok x (List.mem_of_mem_drop (by rw [hdr]; simp : x ∈ L.drop j))
                obtain ⟨t, ht⟩ : ∃ t, i = fr + t := ⟨i - fr, by omega⟩
                obtain ⟨g1, g2, g3, g4, g5⟩ := jn_at (l := x :: r) (x := x) (r := r) rfl t
                have hx1 := (nameP_size hnm).1
                have hgl : (jn (x :: r)).length = P.size - fr := by rw [← hjn, List.length_drop, bs_len]
                have hfrP : fr + x.size ≤ P.size := by omega
                have hget : ∀ q, (jn (x :: r))[q]? = (bs P)[fr + q]? := fun q => by rw [← hjn, List.getElem?_drop]
                have hP1' : (1 : Int) < (P.size : Int) := by
                  have := unhide hPi
                  have hb := (unhide HPh).bsP
                  have hsz := unhide HSZ
                  have : 0 < (jn L).length := by
                    by_cases e0 : fr = 0
                    · rw [e0, List.drop_zero, hb] at hjn
                      have : (47 :: jn L).length = (jn (x :: r)).length := by rw [hjn]
                      have h47 := g1
                      have hno := nameP_no hnm
                      exfalso
                      have q0 := (jn_at (l := x :: r) (x := x) (r := r) rfl 0).1 (by omega)
                      rw [← hjn] at q0
                      have hm : (47 : UInt8) ∈ bs x := List.mem_of_getElem? q0.symm
                      exact hno 47 hm rfl
                    · omega
                  omega
                have hiP' : (i : Int) ≤ (P.size : Int) := by omega
                by_cases hkx : t < x.size
                · -- within a name
                  have hin : i < P.size := by omega
                  have hin' : (i : Int) < (P.size : Int) := by omega
                  have hch : (P[i].toNat : Int) != 47 := by
                    have q1 := g1 hkx
                    rw [hget, ← ht] at q1
                    have q2 : (bs P)[i]? = some P[i] := by
                      rw [List.getElem?_eq_getElem (by rw [bs_len]; exact hin)]; rfl
                    rw [q2] at q1
                    have hm : P[i] ∈ bs x := List.mem_of_getElem? q1.symm
                    have := nameP_no hnm _ hm
                    simp
                    intro e
                    exact this (UInt8.toNat_inj.1 (by show P[i].toNat = 47; omega))
                  have hPi2 : Hid (Pi L P j fr (i + 1)) := .on x r hdr hjn (by omega) (by omega)
                  clear hdr hjn g1 g2 g3 g4 g5 hget hnm hPi hgl hix hfrP hkx ht
                  go_wp2
                  go_roundw
                  case rel => exact ⟨j, fr, i + 1, c, hjL, rfl, rfl, rfl, by go_num, by omega, hc, hPi2, hNq⟩
                  case measure => simp [intOf]; omega
                · obtain rfl : t = x.size := by omega
                  have hext : P.extract fr i = x := ba_ext (by rw [bs_ext, hjn, ht, Nat.add_sub_cancel_left]; exact g4)
                  have hj1 : j < L.length := by
                    have : (L.drop j).length = (x :: r).length := by rw [hdr]
                    rw [List.length_drop, List.length_cons] at this
                    omega
                  have hupj := (unhide HPh).up j hjL
                  have hupj1 := (unhide HPh).up (j + 1) hj1
                  have hLj : L.take (j + 1) = L.take j ++ [x] := by
                    have hgj : L[j]? = some x := by
                      have := List.getElem?_drop (xs := L) (i := j) (j := 0)
                      rw [hdr] at this
                      simpa using this.symm
                    rw [List.take_succ_eq_append_getElem hj1]
                    rw [List.getElem?_eq_getElem hj1] at hgj
                    injection hgj with hgj
                    rw [hgj]
                  rw [hLj, walkN_snoc, ← unhide hc] at hupj1
                  rw [← unhide hc] at hupj
                  have hpos := up_pos hupj1
                  have HFn := (find_any (some ⟨b, off, none⟩) n cap ns now (c : Int) x)
                  have hfv : findV now ns (c : Int) x = (((findP (nd ns c).list x).toNat : Nat) : Int) := by
                    unfold findV
                    rw [up_dir (unhide HCK) hupj, if_pos rfl, Int.toNat_natCast]
                    omega
                  rw [hfv] at HFn
                  have hcn : Hid ((findP (nd ns c).list x).toNat = walkN ns 1 (L.take (j + 1))) := by rw [hLj, walkN_snoc, ← unhide hc]; exact rfl
                  have HF : Hid (∀ W, Nt w W (tO (some ⟨b, off, none⟩) n cap now) → Calls Try.prog 19 #[.agg #[.slice (some ⟨b, off, none⟩) n cap, .int .i64 now], .int .i64 c, .string x] W fun e w' => e = .returned (.int .i64 (((findP (nd ns c).list x).toNat : Nat) : Int)) ∧ Below W.heap.size W w') := fun W hW => HFn W ((unhide HN).below hW.below) (unhide HSM)
                  have hPi2 : Hid (Pi L P (j + 1) (i + 1) (i + 1)) := by
                    cases r with
                    | nil =>
                      refine .done ?_ (.inl ?_)
                      · have : (L.drop j).length = 1 := by rw [hdr]; rfl
                        rw [List.length_drop] at this
                        omega
                      · have := g2 rfl rfl
                        omega
                    | cons y r =>
                      refine .on y r ?_ ?_ (Nat.le_refl _) (by omega)
                      · have : L.drop (j + 1) = (L.drop j).drop 1 := by rw [List.drop_drop]
                        rw [this, hdr]; rfl
                      · have q := (g3 rfl (by simp)).2
                        rw [← hjn, List.drop_drop] at q
                        rw [ht, Nat.add_assoc]; exact q
                  have hgo : Hid ((i : Int) < (P.size : Int) → ∀ hlt : i < P.size, (P[i].toNat : Int) = 47) := fun _ hlt => by
                    have hrne : r ≠ [] := fun e => by have := g2 rfl e; omega
                    have q1 := (g3 rfl hrne).1
                    rw [hget, ← ht] at q1
                    have q2 : (bs P)[i]? = some P[i] := by
                      rw [List.getElem?_eq_getElem (by rw [bs_len]; exact hlt)]; rfl
                    rw [q2] at q1
                    injection q1 with q1
                    rw [q1]; rfl
                  generalize (findP (nd ns c).list x).toNat = c2 at *
                  have hfr1 : fr ≤ i := hfi
                  have hfr2 : (fr : Int) ≤ (i : Int) := by omega
                  clear hdr hjn g1 g2 g3 g4 g5 hget hnm hPi hgl hupj hupj1 hLj hpos hfv HFn hix hfrP hkx ht
                  have hSd : wr.drew.cell? ⟨w.heap.size, 0, none⟩ = some (.slice (some ⟨b, off, none⟩) n cap) ∧ wr.drew.cell? ⟨w.heap.size, 1, none⟩ = some (.int .i64 now) := ⟨c0, c1⟩
                  have HFd := hide (unhide HF wr.drew ⟨⟨(unhide hNq).below.os, (unhide hNq).below.tape, (unhide hNq).below.output, (unhide hNq).below.size, (unhide hNq).below.block⟩, (unhide hNq).box, (unhide hNq).sz⟩)
                  have hNs : Hid (∀ W, Below wr.drew.heap.size wr.drew W → Nt w W (tO (some ⟨b, off, none⟩) n cap now)) := fun W hW => Nt.step (W := wr.drew) ⟨⟨(unhide hNq).below.os, (unhide hNq).below.tape, (unhide hNq).below.output, (unhide hNq).below.size, (unhide hNq).below.block⟩, (unhide hNq).box, (unhide hNq).sz⟩ hW
                  clear HF
                  by_cases hin : i < P.size
                  · have hin' : (i : Int) < (P.size : Int) := by omega
                    have hch := unhide hgo hin' hin
                    clear hgo
                    go_wp2
                    go_region_held3 (fun w' => w'.cell? ⟨w.heap.size, 0, none⟩ = some (.slice (some ⟨b, off, none⟩) n cap) ∧ w'.cell? ⟨w.heap.size, 1, none⟩ = some (.int .i64 now)) (first | with_reducible assumption | go_keep)
                      (first | ((with_reducible refine (unhide HFd).mono ?_); rintro e w5 ⟨rfl, b5⟩; have hN5 := hide (unhide hNs _ b5); have hS5 := (unhide hN5).c; clear b5) | fail)
                    clear HFd hNs hext hch
                    go_wp2
                    go_roundw
                    case rel => exact ⟨j + 1, i + 1, i + 1, c2, by omega, rfl, by go_num, by go_num, by go_num, by omega, hcn, hPi2, hN5⟩
                    case measure => simp [intOf]; omega
                  · have hin' : ¬ (i : Int) < (P.size : Int) := by omega
                    clear hgo
                    go_wp2
                    go_region_held3 (fun w' => w'.cell? ⟨w.heap.size, 0, none⟩ = some (.slice (some ⟨b, off, none⟩) n cap) ∧ w'.cell? ⟨w.heap.size, 1, none⟩ = some (.int .i64 now)) (first | with_reducible assumption | go_keep)
                      (first | ((with_reducible refine (unhide HFd).mono ?_); rintro e w5 ⟨rfl, b5⟩; have hN5 := hide (unhide hNs _ b5); have hS5 := (unhide hN5).c; clear b5) | fail)
                    clear HFd hNs hext
                    go_wp2
                    go_roundw
                    case rel => exact ⟨j + 1, i + 1, i + 1, c2, by omega, rfl, by go_num, by go_num, by go_num, by omega, hcn, hPi2, hN5⟩
                    case measure => simp [intOf]; omega
              · -- all names are behind
                have hck : c = k := by rw [unhide hc, hjl, List.take_length]; exact (unhide HPh).fin
                subst hck
                have HD := hide (depth_any (some ⟨b, off, none⟩) n cap ns now (c : Int) wr ((unhide HN).below (unhide hNq).below) (unhide HSM))
                rw [(unhide HPh).depth, ← hjl] at HD
                clear hjl hPi hc
                rcases hdn with hie | hp1
                · have hie' : ¬ (i : Int) ≤ (P.size : Int) := by omega
                  clear hie
                  go_wp2_with fail
                  refine (unhide HD).mono ?_
                  rintro e w5 ⟨rfl, b5⟩
                  have hN5 := hide ((unhide hNq).step b5)
                  clear b5 HD c0 c1 hNq hie'
                  go_wp2
                  go_roundw
                  case rel => exact ⟨c + 1, by omega, by omega, by go_num, hN5⟩
                  case measure => simp [intOf]; omega
                · have hp1' : ¬ (1 : Int) < (P.size : Int) := by omega
                  by_cases hie : (i : Int) ≤ (P.size : Int)
                  · go_wp2_with fail
                    refine (unhide HD).mono ?_
                    rintro e w5 ⟨rfl, b5⟩
                    have hN5 := hide ((unhide hNq).step b5)
                    clear b5 HD c0 c1 hNq hie hp1 hp1'
                    go_wp2
                    go_roundw
                    case rel => exact ⟨c + 1, by omega, by omega, by go_num, hN5⟩
                    case measure => simp [intOf]; omega
                  · go_wp2_with fail
                    refine (unhide HD).mono ?_
                    rintro e w5 ⟨rfl, b5⟩
                    have hN5 := hide ((unhide hNq).step b5)
                    clear b5 HD c0 c1 hNq hie hp1 hp1'
                    go_wp2
                    go_roundw
                    case rel => exact ⟨c + 1, by omega, by omega, by go_num, hN5⟩
                    case measure => simp [intOf]; omega
        · have hge : (n : Int) ≤ (k : Int) := by omega
          go_wp2_with fail
          refine (unhide HL _).mono ?_
          rintro e w3 ⟨rfl, b3⟩
          have hB3 := hide ((unhide hNt).step b3).below
          clear b3 HL hNt c0 c1
          go_wp2
          go_ret
          exact ⟨rfl, unhide hB3⟩
end Go.Proofs.Ytcidokmpfcigaaa.Tr
