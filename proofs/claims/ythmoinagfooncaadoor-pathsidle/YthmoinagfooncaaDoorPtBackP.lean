/- A directory's path leads to it, in plain words. -/
import Derived.Test.YthmoinagfooncaaDoorTrPathsP
import Derived.Test.YthmoinagfooncaaDoorPtFind
namespace Go.Proofs.YthmoinagfooncaaDoor.Pt
open Go.RowKit Go.Proofs.YthmoinagfooncaaDoor.Cu Go.Proofs.YthmoinagfooncaaDoor.Tr Go.Proofs.YthmoinagfooncaaDoor.Pm

theorem may_dir {ns : List Nd} {d : Nat} (hd : Dr ns d) (g mk dr : Int) : mayP (nd ns d) ⟨0, g, mk, dr⟩ 1 = true := by
  unfold mayP passP
  rw [if_neg (by rw [hd.2.2]; decide), if_pos rfl, hd.2.2]
  simp
theorem goP_names {ns : List Nd} {g mk dr : Int} {next : Nat → List ByteArray → Bool → Pl × Int} : ∀ (L : List ByteArray) (c : Nat), (∀ x ∈ L, nameP x = true) → (∀ j, j ≤ L.length → Dr ns (walkN ns c (L.take j))) → L ≠ [] →
    ∃ p, goP ns ⟨0, g, mk, dr⟩ true next false c L = (p, 0) ∧ p.node = (walkN ns c L : Int)
  | [], _, _, _, h => absurd rfl h
  | x :: r, c, hn, hw, _ => by
    have h0 : Dr ns c := hw 0 (Nat.zero_le _)
    have h1 : Dr ns (findP (nd ns c).list x).toNat := hw 1 (by simp)
    have hx := hn x (by simp)
    have hx' := hx
    unfold nameP at hx'
    simp only [Bool.and_eq_true, decide_eq_true_eq] at hx'
    obtain ⟨⟨⟨⟨⟨x1, x2⟩, x3⟩, x4⟩, _⟩, _⟩ := hx'
    have hp := h1.1
    obtain ⟨m, hm⟩ : ∃ m : Nat, findP (nd ns c).list x = (m : Int) := ⟨(findP (nd ns c).list x).toNat, by omega⟩
    rw [hm, Int.toNat_natCast] at h1
    have hm0 : ¬ ((m : Int) = 0) := by have := h1.1; omega
    have e1 : goP ns ⟨0, g, mk, dr⟩ true next false c (x :: r) = if r = [] then (⟨c, x, (m : Int), false⟩, 0) else goP ns ⟨0, g, mk, dr⟩ true next false m r := by
      rw [goP, if_neg (by rw [may_dir h0]; decide), if_neg (by omega), if_neg x3, if_neg x4, hm, if_neg hm0, Int.toNat_natCast, if_neg (by rw [h1.2.2]; simp), if_neg (by rw [h1.2.2]; simp)]
    have e2 : walkN ns c (x :: r) = walkN ns m r := by show walkN ns (findP (nd ns c).list x).toNat r = _; rw [hm, Int.toNat_natCast]
    rw [e1, e2]
    by_cases hr : r = []
    · rw [if_pos hr]
      exact ⟨_, rfl, by rw [hr]; rfl⟩
    · rw [if_neg hr]
      refine goP_names r m (fun y hy => hn y (by simp [hy])) (fun j hj => ?_) hr
      have := hw (j + 1) (by simp; omega)
      rw [List.take_succ_cons] at this
      have e3 : walkN ns c (x :: r.take j) = walkN ns m (r.take j) := by show walkN ns (findP (nd ns c).list x).toNat _ = _; rw [hm, Int.toNat_natCast]
      rw [e3] at this; exact this
theorem name_ne {x : ByteArray} (h : nameP x = true) : bs x ≠ [] := by
  unfold nameP at h
  simp only [Bool.and_eq_true, decide_eq_true_eq] at h
  have := h.1.1.1.1.1
  intro e
  have : (bs x).length = 0 := by rw [e]; rfl
  have hl : (bs x).length = x.size := rfl
  omega
theorem tx_of (x : ByteArray) : tx (bs x) = x := by simp [tx, bs]
theorem prt_jn : ∀ L : List ByteArray, (∀ x ∈ L, nameP x = true) → prt [] (jn L) = L
  | [], _ => rfl
  | [x], h => by
    have hx := h x (by simp)
    show prt [] (bs x) = _
    have := prt_skip (bs x) [] [] (nameP_no hx)
    rw [List.append_nil] at this
    rw [this, List.nil_append]
    unfold prt
    rw [if_neg (name_ne hx), tx_of]
  | x :: y :: r, h => by
    have hx := h x (by simp)
    show prt [] (bs x ++ 47 :: jn (y :: r)) = _
    rw [prt_skip (bs x) [] _ (nameP_no hx), List.nil_append]
    unfold prt
    rw [if_pos rfl, if_neg (name_ne hx), tx_of, prt_jn (y :: r) (fun z hz => h z (by simp [hz]))]
theorem jn_last : ∀ L : List ByteArray, (∀ x ∈ L, nameP x = true) → L ≠ [] → (jn L).getLast? ≠ some 47 ∧ jn L ≠ []
  | [], _, h => absurd rfl h
  | [x], h, _ => by
    have hx := h x (by simp)
    exact ⟨noSl_end (nameP_no hx), name_ne hx⟩
  | x :: y :: r, h, _ => by
    obtain ⟨h1, h2⟩ := jn_last (y :: r) (fun z hz => h z (by simp [hz])) (by simp)
    refine ⟨?_, by simp [jn]⟩
    show (bs x ++ 47 :: jn (y :: r)).getLast? ≠ _
    rw [show bs x ++ 47 :: jn (y :: r) = (bs x ++ [47]) ++ jn (y :: r) by simp, getLast_app _ _ h2]
    exact h1
theorem jn_no0 : ∀ L : List ByteArray, (∀ x ∈ L, nameP x = true) → (0 : UInt8) ∉ jn L
  | [], _ => by simp [jn]
  | [x], h => name0 (h x (by simp))
  | x :: y :: r, h => by
    have h1 := jn_no0 (y :: r) (fun z hz => h z (by simp [hz]))
    show (0 : UInt8) ∉ bs x ++ 47 :: jn (y :: r)
    simp only [List.mem_append, List.mem_cons, not_or]
    exact ⟨name0 (h x (by simp)), by decide, h1⟩
where
  name0 {x : ByteArray} (h : nameP x = true) : (0 : UInt8) ∉ bs x := by
    unfold nameP hasB at h
    simp only [Bool.and_eq_true, decide_eq_true_eq, Bool.not_eq_true', decide_eq_false_iff_not] at h
    exact h.1.2
/-- what is known of a directory's path -/
structure Ph (now : Int) (ns : List Nd) (k : Nat) (L : List ByteArray) (P : ByteArray) : Prop where
  bsP : bs P = 47 :: jn L
  up : ∀ j, j ≤ L.length → Up ns j (walkN ns 1 (L.take j))
  fin : walkN ns 1 L = k
  ok : ∀ x ∈ L, nameP x = true
  path : pathV now ns (k : Int) = .tuple #[.string P, .int .i64 0]
  small : P.size ≤ 3000000
theorem ph_of {now : Int} {ns : List Nd} {k : Nat} (h : isDirP now ns (k : Int) = true) : ∃ L P, Ph now ns k L P := by
  have hc := (dir_list h).1
  have hu := (dir_up h).1
  obtain ⟨hl, hj⟩ := names_lead hc hu
  have hlen : (namesTo ns k).length = depN ns 32 k := by unfold namesTo; rw [List.length_reverse, hl]
  have hbj : bs (⟨#[47]⟩ ++ joined ns k) = 47 :: jn (namesTo ns k) := by
    show (⟨#[47]⟩ ++ joined ns k : ByteArray).data.toList = _
    rw [ByteArray.data_append, Array.toList_append]
    show [47] ++ (joined ns k).data.toList = _
    unfold joined
    rw [← jn_join]; rfl
  refine ⟨namesTo ns k, ⟨#[47]⟩ ++ joined ns k, hbj, fun j hjl => ?_, ?_, (namesTo_len h).1, ?_, ?_⟩
  · exact (hj j (by omega)).1
  · have := (hj (depN ns 32 k) (Nat.le_refl _)).2 rfl
    rw [List.take_of_length_le (by rw [List.length_reverse, hl]; exact Nat.le_refl _)] at this
    exact this
  · unfold pathV; rw [h, Int.toNat_natCast]; rfl
  · rw [← bs_len, hbj, List.length_cons, ← jn_join]
    have := joined_size h
    omega
theorem back_find {now : Int} {ns : List Nd} {k d : Nat} {L : List ByteArray} {P : ByteArray} (hc : checkP now ns = true) (hp : Ph now ns k L P) (hs : P.size ≤ 1024) (hd : Dr ns d) :
    ∃ p, findA now ns ⟨0, 0, 0, d⟩ P true = (p, 0) ∧ p.node = (k : Int) := by
  have hso : someP now ns ⟨0, 0, 0, (d : Int)⟩ = true := by
    unfold someP dirAt nodeP
    have := hd.1; have := hd.2.1
    rw [hc, Int.toNat_natCast, hd.2.2]
    simp [ownerP]; omega
  have hsz : ¬ P.size = 0 := by
    intro e
    have := none_of e
    rw [hp.bsP] at this; simp at this
  have hbad : badP P = false := by
    unfold badP hasB
    rw [hp.bsP]
    have h0 := jn_no0 L hp.ok
    simp only [Bool.or_eq_false_iff, decide_eq_false_iff_not, List.mem_cons, not_or]
    exact ⟨by omega, by decide, h0⟩
  have hb : begins P = true := by unfold begins; rw [hp.bsP]; rfl
  have hparts : partsP P = L := by
    unfold partsP
    rw [hp.bsP]
    show (if (47 : UInt8) = 47 then (if ([] : Bs) = [] then prt [] (jn L) else _) else _) = L
    rw [if_pos rfl, if_pos rfl, prt_jn L hp.ok]
  unfold findA inPath
  rw [if_neg (by rw [hso]; decide), if_neg hsz, if_neg (by rw [hbad]; decide), hb, if_pos rfl, hparts]
  by_cases hL : L = []
  · subst hL
    refine ⟨⟨1, ⟨#[]⟩, 1, ends P⟩, rfl, ?_⟩
    show (1 : Int) = k
    rw [← hp.fin]; rfl
  · have he : ends P = false := by
      obtain ⟨h1, h2⟩ := jn_last L hp.ok hL
      unfold ends
      rw [hp.bsP, show (47 : UInt8) :: jn L = [47] ++ jn L from rfl, getLast_app _ _ h2]
      exact decide_eq_false h1
    rw [he]
    obtain ⟨p, h1, h2⟩ := goP_names (ns := ns) (g := 0) (mk := 0) (dr := d) (next := leadP ns ⟨0, 0, 0, d⟩ true 16) L 1 hp.ok (fun j hj => up_dr hc (hp.up j hj)) hL
    exact ⟨p, h1, by rw [h2, hp.fin]⟩
end Go.Proofs.YthmoinagfooncaaDoor.Pt
