package tests

import (
	"math/rand"
	"slices"
	"testing"

	"loop.example/g00057/impl"
)

// jobsCase is a list of jobs and its fault.
type jobsCase struct {
	name string
	list []impl.Job
	code int64
}

func jobIdCases() []jobsCase {
	return []jobsCase{
		{"no jobs", nil, impl.OK},
		{"an empty list", jobs(), impl.OK},
		{"plain", plainJobs(), impl.OK},
		{"one", jobs(job(1, 1)), impl.OK},
		{"one fewer than MaxJobs", manyJobs(29), impl.OK},
		{"MaxJobs", manyJobs(30), impl.OK},
		{"one more", manyJobs(31), impl.ErrMany},
		{"one more, all of them wrong", make([]impl.Job, 31), impl.ErrMany},
		{"far too many", make([]impl.Job, 10000), impl.ErrMany},
		{"an Id of -1", jobs(job(-1, 1)), impl.ErrForm},
		{"an Id of 0", jobs(job(0, 1)), impl.ErrForm},
		{"an Id of 1", jobs(job(1, 1)), impl.OK},
		{"the greatest Id", jobs(job(greatestInt, 1)), impl.OK},
		{"the least Id", jobs(job(leastInt, 1)), impl.ErrForm},
		{"an Id that the job ahead has", jobs(job(4, 1), job(4, 2)), impl.ErrForm},
		{"an Id that a job far ahead has", append(manyJobs(29), job(1, 1)), impl.ErrForm},
		{"the greatest Id twice", jobs(job(greatestInt, 1), job(4, 1), job(greatestInt, 1)), impl.ErrForm},
		{"Ids that fall", jobs(job(3, 1), job(2, 1), job(1, 1)), impl.OK},
		{"jobs that are alike but for their Ids", jobs(job(3, 1), job(4, 1)), impl.OK},
		{"an Id that is a Time", jobs(job(3, 4), job(4, 3)), impl.OK},
	}
}

func jobNumberCases() []jobsCase {
	var list []jobsCase
	with := func(name string, turn func(j *impl.Job), code int64) {
		j := job(1, 1)
		turn(&j)
		list = append(list, jobsCase{name, jobs(j), code})
	}
	for _, n := range numbers(-1, 0, 1, 999999, 1000000, 1000001) {
		code := impl.ErrRange * bit(n == -1 || n == 1000001)
		with("Come", func(j *impl.Job) { j.Come = n }, code)
		with("Second", func(j *impl.Job) { j.Second = n }, code)
		with("Due", func(j *impl.Job) { j.Due = n }, code)
		with("Time", func(j *impl.Job) { j.Time = n }, max(code, impl.ErrRange*bit(n == 0)))
	}
	for _, n := range numbers(-1, 0, 1, 99, 100, 101) {
		with("Weight", func(j *impl.Job) { j.Weight = n }, impl.ErrRange*bit(n == -1 || n == 101))
	}
	for _, n := range numbers(-1, 0, 1, 9, 10, 11) {
		with("Kind", func(j *impl.Job) { j.Kind = n }, impl.ErrRange*bit(n == -1 || n > 9))
	}
	return list
}

func TestJobsFaultByHand(t *testing.T) {
	for _, c := range append(jobIdCases(), jobNumberCases()...) {
		checkJobsFault(t, c.name, c.list, c.code)
	}
}

func TestJobsFaultAtEveryEnd(t *testing.T) {
	for _, n := range jobEnds() {
		codes := numbers(
			impl.ErrForm*bit(n < 1),
			impl.ErrRange*bit(n < 0 || n > 1000000),
			impl.ErrRange*bit(n < 1 || n > 1000000),
			impl.ErrRange*bit(n < 0 || n > 1000000),
			impl.ErrRange*bit(n < 0 || n > 1000000),
			impl.ErrRange*bit(n < 0 || n > 100),
			impl.ErrRange*bit(n < 0 || n > 9))
		for field, code := range codes {
			for at := range 3 {
				list := jobs(job(700, 1), job(800, 1), job(900, 1))
				*fieldsOf(&list[at])[field] = n
				checkJobsFault(t, "a field at an end", list, code)
			}
		}
	}
}

// jobSpoil turns one thing of plain jobs.
type jobSpoil struct {
	code  int64
	spoil func(list []impl.Job)
}

// jobSpoils stand in the order in which they are told: each is asked ahead of those behind it, but those of one row together.
func jobSpoils() [][]jobSpoil {
	var rows [][]jobSpoil
	for i := range plainJobs() {
		set := func(code int64, field int, n int64) jobSpoil {
			return jobSpoil{code, func(list []impl.Job) { *fieldsOf(&list[i])[field] = n }}
		}
		ids := []jobSpoil{set(impl.ErrForm, 0, 0)}
		if i > 0 {
			ids = append(ids, set(impl.ErrForm, 0, plainJobs()[i-1].Id))
		}
		rows = append(rows, ids, []jobSpoil{set(impl.ErrRange, 1, -1), set(impl.ErrRange, 2, 0), set(impl.ErrRange, 3, 1000001), set(impl.ErrRange, 4, -1), set(impl.ErrRange, 5, 101), set(impl.ErrRange, 6, 10)})
	}
	return rows
}

// Of any two faults the one that is asked first is told: all of a job ahead of the next one.
func TestOrderOfJobsFaults(t *testing.T) {
	rows := jobSpoils()
	for i, row := range rows {
		for _, first := range row {
			list := plainJobs()
			first.spoil(list)
			checkJobsFault(t, "one fault", list, first.code)
			checkJobsFault(t, "one fault, and too many", append(list, manyJobs(30)...), impl.ErrMany)
			for _, later := range rows[i+1:] {
				for _, second := range later {
					both := slices.Clone(list)
					second.spoil(both)
					checkJobsFault(t, "two faults", both, jobsFaultWant(both))
				}
			}
		}
	}
	for _, c := range []jobsCase{
		{"an Id of 0, no Time", jobs(job(0, 0)), impl.ErrForm},
		{"an Id twice, the second one of no Time", jobs(job(1, 1), job(1, 0)), impl.ErrForm},
		{"an Id twice, the first one of no Time", jobs(job(1, 0), job(1, 1)), impl.ErrRange},
		{"a Weight of the first, the Id of the second", jobs(weighs(-1, job(1, 1)), job(0, 1)), impl.ErrRange},
		{"a Kind of the first, the Id of the second", jobs(ofKind(10, job(1, 1)), job(1, 1)), impl.ErrRange},
		{"the Id of the first, a Come of the second", jobs(job(0, 1), comesAt(-1, job(1, 1))), impl.ErrForm},
		{"the Id of the last", append(manyJobs(29), job(0, 1)), impl.ErrForm},
		{"the Due of the last", append(manyJobs(29), dueAt(-1, job(30, 1))), impl.ErrRange},
	} {
		checkJobsFault(t, c.name, c.list, c.code)
	}
}

func TestSomeJobsFaults(t *testing.T) {
	chance := rand.New(rand.NewSource(261))
	met := map[int64]int{}
	for range 1500 {
		right := someJobs(chance, chance.Intn(31))
		checkJobsFault(t, "right", right, impl.OK)
		wrong := spoiledJobs(chance, right)
		code := jobsFaultWant(wrong)
		checkJobsFault(t, "spoiled", wrong, code)
		met[code]++
	}
	for _, code := range numbers(impl.OK, impl.ErrForm, impl.ErrMany, impl.ErrRange) {
		if met[code] < 50 {
			t.Errorf("the codes are %v", met)
		}
	}
}
