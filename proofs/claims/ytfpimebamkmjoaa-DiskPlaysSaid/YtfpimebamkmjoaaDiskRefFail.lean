/- Fail, Read: the document's. -/
import Derived.Test.YtfpimebamkmjoaaDiskRefSync
import Derived.Deep.DeepCutAuto
namespace Go.Proofs.Ytfpimebamkmjoaa
open Go.RowKit
set_option linter.unusedVariables false

section
variable {P : Program}
/-- append, where its run is known. -/
theorem wpList_append_run {ops : Array Oper} {rest : List Oper} {o : Oper} {a : Act} {w w' : World} {Q : Exit → Act → World → Prop} {vs vx v' : Value} (hgd : o.guard = none) (s x : Operand) (t : TypeId)
    (ho : o.op = .call { callee := .builtin .append, args := #[s, x], argTypes := #[t, t] }) (hs : a.eval s = vs) (hx : a.eval x = vx)
    (hr : (Builtin.append_ #[t, t] o.type #[vs, vx]).run P w = .ok v' w') (h : wpList P ops Q rest (a.put o.dst v') w') : wpList P ops Q (o :: rest) a w := by
  refine wpList_plain hgd fun K hK => ?_
  unfold Oper.wp execOp
  simp only [ho, resolve, invoke, builtin, Sem.run_bind, Sem.run_pure, Result.andThen_ok, List.map_toArray, List.map_cons, List.map_nil, hs, hx, hr]
  exact hK _ _ h
end
theorem RefAt.noInt {w : World} {base g : Nat} {F : List Nat} {D : DiskS} (h : RefAt w base g F D) : ∀ cs fr, w.heap[g]? ≠ some (.cells cs 3 fr) := by
  obtain ⟨vL, vK, h1, h2, h3, h4, rfl⟩ := h
  intro cs fr e
  unfold Blok at h1
  rw [e] at h1
  injection h1 with h1
  injection h1 with _ ht _
  exact absurd ht (by decide)

set_option maxHeartbeats 1000000 in
theorem fail_ref {base g : Nat} {F : List Nat} {D : DiskS} (n : Int) (v : Value) (keep : List Int) (w : World) (h : RefAt w base g F D) (hv : IntsAt w v keep) (hl : keep.length ≤ 1099511627776) :
    Calls Try.prog 42 #[.pointer (some ⟨g, 0, none⟩), .int .i64 n, v] w (RefEnd base g F w (failS D n keep).1 (failS D n keep).2) := by
  obtain ⟨A, cap, vK, fr, c0, c1, _, c3, _, _, _, n1, n2, _⟩ := h.view
  have fr5 := fr 5
  have fr6 := fr 6
  have H := Lib.hid h
  clear fr c1 n1 n2 c0
  cases hd : D.down
  case true =>
    rw [failS_down hd]
    rw [hd] at c3
    clear hd h hv
    go_enter Try.func42, Try.ntmps42
    go_wp2
    go_ret
    exact ⟨F, rfl, H.out, fun _ h => Or.inl h, Touch.refl _ _⟩
  rw [hd] at c3
  by_cases hn : n < 0
  case pos =>
    rw [failS_arg hd hn]
    clear hd h hv
    go_enter Try.func42, Try.ntmps42
    go_wp2
    go_ret
    exact ⟨F, rfl, H.out, fun _ h => Or.inl h, Touch.refl _ _⟩
  rw [failS_go hd hn]
  have hbase : base ≤ w.heap.size := by have := h.low g h.mem; omega
  have hw : ∀ u, (w.setCell ⟨g, 5, none⟩ u).heap.size = w.heap.size := fun u => by simp [World.setCell]
  have hI := ints_far (i := 5) hv h.noInt
  have key : ∀ c : Nat, ∃ A' c' w' F', (Builtin.append_ #[32, 32] 32 #[.slice none 0 0, v]).run Try.prog (w.setCell ⟨g, 5, none⟩ (.int .i64 (c : Nat))) = .ok (.slice A' keep.length c') w' ∧ w'.frozen? ⟨g, 6, none⟩ = false ∧ (∃ u, w'.cell? ⟨g, 6, none⟩ = some u) ∧
      RefAt (w'.setCell ⟨g, 6, none⟩ (.slice A' keep.length c')) base g F' { D with fails := c, keep := keep } ∧ (∀ x ∈ F', x ∈ F ∨ w.heap.size ≤ x) ∧ Touch F w (w'.setCell ⟨g, 6, none⟩ (.slice A' keep.length c')) := by
    intro c
    obtain ⟨v', w', e1, e2, e3, e4⟩ := run_copy_ints (w.setCell ⟨g, 5, none⟩ (.int .i64 (c : Nat))) base (by rw [hw]; exact hbase) v keep (hI _) hl
    obtain ⟨A', c', rfl, _⟩ := own_form e2
    have hR := (h.putFails c).touch e3 (fun _ _ => by simp)
    obtain ⟨F', hF', hs⟩ := hR.putKeep _ keep e2
    obtain ⟨_, _, u6, fr', _, _, _, _, _, _, c6, _⟩ := hR.view
    rw [hw] at e4
    have hT : Touch F w w' := ((Touch.refl F w).setCell (Or.inl h.mem) _).trans e3 (fun _ h => by cases h)
    exact ⟨A', c', w', F', e1, fr' 6, ⟨u6, c6⟩, hF', fun x hx => (hs x hx).imp id (e4 x), hT.setCell (Or.inl h.mem) _⟩
  by_cases hc : n ≤ 1099511627776
  · obtain ⟨m, rfl⟩ : ∃ m : Nat, n = m := ⟨n.toNat, by omega⟩
    have em : min ((m : Int)).toNat 1099511627776 + 1 = m + 1 := by omega
    rw [em]
    obtain ⟨A', c', w', F', e1, e2, ⟨u6, e3⟩, e4, e5, e6⟩ := key (m + 1)
    rw [show (((m + 1 : Nat)) : Int) = (m : Int) + 1 from by omega] at e1
    have E4 := Lib.hid e4
    have E5 := Lib.hid e5
    have E6 := Lib.hid e6
    have E1 := Lib.hid e1
    have hmin : ∀ ts t w, (Builtin.min_ ts t #[.int .i64 (m : Int), .int .i64 1099511627776]).run Try.prog w = .ok (.int .i64 (m : Int)) w := fun ts t w => by
      rw [run_min_int2, if_neg (by omega)]
    have hwr : IntKind.i64.wrap ((m : Int) + 1) = (m : Int) + 1 := IntWalk.i64_in _ (by omega)
    have t0 : decide ((m : Int) < 0) = false := decide_eq_false (by omega)
    clear key hI hw e4 e5 e6 hd h hv em hc hn hl e1
    go_enter Try.func42, Try.ntmps42
    go_upto_region 6 with fail
    clear hmin
    go_wp2_with (at_builtin; refine wpList_append_run rfl _ _ _ rfl rfl rfl E1.out ?_)
    go_ret
    exact ⟨F', rfl, E4.out, E5.out, E6.out⟩
  · have em : min n.toNat 1099511627776 + 1 = 1099511627777 := by omega
    rw [em]
    obtain ⟨A', c', w', F', e1, e2, ⟨u6, e3⟩, e4, e5, e6⟩ := key 1099511627777
    have E4 := Lib.hid e4
    have E5 := Lib.hid e5
    have E6 := Lib.hid e6
    have E1 := Lib.hid e1
    have hmin : ∀ ts t w, (Builtin.min_ ts t #[.int .i64 n, .int .i64 1099511627776]).run Try.prog w = .ok (.int .i64 1099511627776) w := fun ts t w => by
      rw [run_min_int2, if_pos (by omega)]
    clear key hI hw e4 e5 e6 hd h hv em e1 hc hl
    go_enter Try.func42, Try.ntmps42
    go_upto_region 6 with fail
    clear hmin
    go_wp2_with (at_builtin; refine wpList_append_run rfl _ _ _ rfl rfl rfl E1.out ?_)
    go_ret
    exact ⟨F', rfl, E4.out, E5.out, E6.out⟩
end Go.Proofs.Ytfpimebamkmjoaa
