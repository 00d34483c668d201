package paper

import (
	"palantype/api"
)

// never is the day of an answer that there is not: behind all days.
const never = api.MaxDate + 1

// validDay reports whether there is such a day.
func validDay(n int) bool { return within(n, 0, api.MaxDate) }

// valid reports whether the question is as it has to be.
func (q Question) valid() bool {
	return validNumber(q.Number) && validDay(q.Asked) && within(q.Within, 0, api.MaxDate)
}

// valid reports whether the reply is as it has to be, even if it is to no
// question.
func (r Reply) valid() bool { return validDay(r.Day) }

// checkQuestions returns the error of questions and replies, or OK.
func checkQuestions(l []Question, replies []Reply) api.Errno {
	if len(l) > api.MaxQuestions || len(replies) > api.MaxReplies {
		return api.ErrLimit
	}
	if !all(l, Question.valid) || !all(replies, Reply.valid) {
		return api.ErrArg
	}
	asked := map[int]bool{}
	for _, q := range l {
		asked[q.Number] = true
	}
	if len(asked) < len(l) {
		return api.ErrTwice
	}
	if !all(replies, func(r Reply) bool { return asked[r.To] }) {
		return api.ErrNone
	}
	return api.OK
}

// answer returns the day of the answer of the question, or never.
func (q Question) answer(replies []Reply) int {
	first := never
	for _, r := range replies {
		if r.To == q.Number && r.Day >= q.Asked {
			first = min(first, r.Day)
		}
	}
	return first
}

// state returns the state of the question on the day, if it is answered on the
// day of the answer.
func (q Question) state(answer, day int) uint8 {
	last := q.Asked + q.Within // the last day on which an answer is not late
	switch {
	case day < q.Asked:
		return Unasked
	case answer <= day && answer <= last:
		return Answered
	case answer <= day:
		return Overdue
	case day <= last:
		return Open
	}
	return Late
}
